package tests

import (
	"fmt"
	"math"
	"math/rand"
	"reflect"
	"slices"
	"testing"

	"loop.example/g00144/impl"
)

// clausesOf: so many clauses of the one literal.
func clausesOf(count int, literal int64) [][]int64 {
	clauses := [][]int64(nil)
	for range count {
		clauses = append(clauses, []int64{literal})
	}
	return clauses
}

// countUp: first, first and 1, .. up to last.
func countUp(first int64, last int64) []int64 {
	list := []int64(nil)
	for v := first; v <= last; v++ {
		list = append(list, v)
	}
	return list
}

// rightCnfs: at the edges of what is right.
func rightCnfs() map[string]impl.Cnf {
	return map[string]impl.Cnf{
		"nothing":                   {},
		"no variable":               {Clauses: [][]int64{{}}},
		"no variable, two of none":  {Clauses: [][]int64{nil, {}}},
		"no clause":                 {Vars: 5},
		"an empty list of clauses":  {Vars: 5, Clauses: [][]int64{}},
		"MaxVars":                   {Vars: impl.MaxVars, Clauses: [][]int64{{1, -96}, {96}}},
		"MaxVars without a clause":  {Vars: impl.MaxVars},
		"one variable":              {Vars: 1, Clauses: [][]int64{{1}, {-1}}},
		"a clause of no literal":    {Vars: 3, Clauses: [][]int64{{1, 2}, {}, {-3}}},
		"Vars and minus Vars":       {Vars: 7, Clauses: [][]int64{{7}, {-7}, {7, -6}, {-7, 6}}},
		"literals that fall":        {Vars: 7, Clauses: [][]int64{{7, 3, -5, 1}}},
		"MaxWide":                   {Vars: 16, Clauses: [][]int64{countUp(1, 16)}},
		"MaxWide of minus ones":     {Vars: impl.MaxVars, Clauses: [][]int64{countUp(-96, -81), countUp(-20, -5)}},
		"MaxClauses":                {Vars: 2, Clauses: clausesOf(impl.MaxClauses, -2)},
		"MaxClauses of none":        {Clauses: make([][]int64, impl.MaxClauses)},
		"clauses alike":             {Vars: 2, Clauses: [][]int64{{1, 2}, {1, 2}, {2, 1}}},
		"a variable in each of two": {Vars: 2, Clauses: [][]int64{{1}, {-1, 2}}},
	}
}

// wrongCnfs: each of them by one thing.
func wrongCnfs() map[string]impl.Cnf {
	wide := countUp(1, 17)
	long := clausesOf(impl.MaxClauses, 1)
	return map[string]impl.Cnf{
		"Vars below 0":                    {Vars: -1},
		"Vars far below 0":                {Vars: math.MinInt64, Clauses: [][]int64{{}}},
		"one more than MaxVars":           {Vars: impl.MaxVars + 1},
		"Vars far above":                  {Vars: math.MaxInt64, Clauses: [][]int64{{1}}},
		"one more than MaxClauses":        {Vars: 1, Clauses: append(long, []int64{1})},
		"one more of none":                {Vars: 1, Clauses: make([][]int64, impl.MaxClauses+1)},
		"one more than MaxWide":           {Vars: impl.MaxVars, Clauses: [][]int64{{1}, wide}},
		"one more than MaxWide, minus":    {Vars: impl.MaxVars, Clauses: [][]int64{countUp(-30, -14)}},
		"a literal of 0":                  {Vars: 3, Clauses: [][]int64{{0}}},
		"a literal of 0 behind others":    {Vars: 3, Clauses: [][]int64{{1}, {-2, 3, 0}}},
		"a literal of 0, no variable":     {Clauses: [][]int64{{0}}},
		"a literal, no variable":          {Clauses: [][]int64{{1}}},
		"a literal of Vars and 1":         {Vars: 3, Clauses: [][]int64{{4}}},
		"a literal of minus Vars and 1":   {Vars: 3, Clauses: [][]int64{{1, 2}, {-4, 1}}},
		"one above MaxVars":               {Vars: impl.MaxVars, Clauses: [][]int64{{impl.MaxVars + 1}}},
		"the least literal":               {Vars: impl.MaxVars, Clauses: [][]int64{{math.MinInt64}}},
		"the least literal and 1":         {Vars: impl.MaxVars, Clauses: [][]int64{{-math.MaxInt64}}},
		"the greatest literal":            {Vars: impl.MaxVars, Clauses: [][]int64{{math.MaxInt64}}},
		"two alike":                       {Vars: 3, Clauses: [][]int64{{2, 2}}},
		"two minus ones alike":            {Vars: 3, Clauses: [][]int64{{-2, -2}}},
		"two against each other":          {Vars: 3, Clauses: [][]int64{{2, -2}}},
		"minus one ahead of one":          {Vars: 3, Clauses: [][]int64{{-2, 2}}},
		"two alike with one between":      {Vars: 3, Clauses: [][]int64{{3, 1, 3}}},
		"two against with one between":    {Vars: 3, Clauses: [][]int64{{1}, {2}, {-3, 1, 3}}},
		"two alike in the last clause":    {Vars: 1, Clauses: append(clausesOf(impl.MaxClauses-1, 1), []int64{1, 1})},
		"the last literal of many":        {Vars: 16, Clauses: [][]int64{append(countUp(1, 15), -1)}},
		"a wrong clause behind an untrue": {Vars: 1, Clauses: [][]int64{{}, {1}, {5}}},
	}
}

// cnfRightByHand: what the document's chapter 7 says.
func cnfRightByHand(c impl.Cnf) bool {
	ok := c.Vars >= 0 && c.Vars <= impl.MaxVars && len(c.Clauses) <= impl.MaxClauses
	for _, clause := range c.Clauses {
		ok = ok && len(clause) <= impl.MaxWide
		for i, x := range clause {
			ok = ok && x != 0 && x >= -c.Vars && x <= c.Vars
			for _, y := range clause[:i] {
				ok = ok && x != y && x != -y
			}
		}
	}
	return ok
}

// truesRightByHand: rising variables of so many.
func truesRightByHand(vars int64, trues []int64) bool {
	for i, v := range trues {
		if v < 1 || v > vars || i > 0 && v <= trues[i-1] {
			return false
		}
	}
	return true
}

// clauseFaultByHand: what CnfFault is to tell, with a value by variable.
func clauseFaultByHand(c impl.Cnf, trues []int64) int64 {
	if !cnfRightByHand(c) || !truesRightByHand(c.Vars, trues) {
		return -2
	}
	value := make([]bool, c.Vars+1)
	for _, v := range trues {
		value[v] = true
	}
	for i, clause := range c.Clauses {
		is := false
		for _, x := range clause {
			if x > 0 && value[x] || x < 0 && !value[-x] {
				is = true
			}
		}
		if !is {
			return int64(i)
		}
	}
	return -1
}

// wantCnfFault asks CnfTrue, too.
func wantCnfFault(t *testing.T, what string, c impl.Cnf, trues []int64, want int64) {
	t.Helper()
	if got := impl.CnfFault(c, trues); got != want {
		t.Errorf("%s with %v: the fault is %d, want %d", what, trues, got, want)
	}
	if got := impl.CnfTrue(c, trues); got != (want == -1) {
		t.Errorf("%s with %v: true is told as %v", what, trues, got)
	}
}

// wantCnf: an empty list and none are the same.
func wantCnf(t *testing.T, what string, got impl.Cnf, want impl.Cnf) {
	t.Helper()
	if got.Vars != want.Vars || !slices.EqualFunc(got.Clauses, want.Clauses, slices.Equal[[]int64]) {
		t.Errorf("%s: got %+v, want %+v", what, got, want)
	}
}

// cnfByHand: the Cnf of right ids, the variables looked up by their place.
func cnfByHand(table impl.Table, top int64, ids []int64) impl.Cnf {
	variable := map[impl.Place]int64{}
	c := impl.Cnf{}
	for _, id := range ids {
		clause := []int64{}
		for _, channel := range domainByHand(table, id, top) {
			c.Vars++
			variable[impl.Place{Id: id, Channel: channel}] = c.Vars
			clause = append(clause, c.Vars)
		}
		c.Clauses = append(c.Clauses, clause)
	}
	for _, own := range c.Clauses[:len(ids)] {
		for i := range own {
			for j := i + 1; j < len(own); j++ {
				c.Clauses = append(c.Clauses, []int64{-own[i], -own[j]})
			}
		}
	}
	for _, p := range table.Pairs {
		for a := int64(impl.LowChannel); a <= impl.HighChannel; a++ {
			for b := int64(impl.LowChannel); b <= impl.HighChannel; b++ {
				one, other := impl.Place{Id: p.A, Channel: a}, impl.Place{Id: p.B, Channel: b}
				if variable[one] > 0 && variable[other] > 0 && !mayHaveByHand(table, one, other) {
					c.Clauses = append(c.Clauses, []int64{-variable[one], -variable[other]})
				}
			}
		}
	}
	return c
}

// plansByHand: all right plans of all ids.
func plansByHand(table impl.Table, top int64, ids []int64, ahead []impl.Place) [][]impl.Place {
	if len(ids) == 0 {
		return [][]impl.Place{ahead}
	}
	plans := [][]impl.Place(nil)
	for _, channel := range domainByHand(table, ids[0], top) {
		plan := append(slices.Clone(ahead), impl.Place{Id: ids[0], Channel: channel})
		if faultByHand(table, top, plan) == 0 {
			plans = append(plans, plansByHand(table, top, ids[1:], plan)...)
		}
	}
	return plans
}

// eachTrues: all trues of so many variables, few ones.
func eachTrues(vars int64) [][]int64 {
	all := [][]int64(nil)
	for bits := range 1 << vars {
		trues := []int64(nil)
		for v := range vars {
			if bits>>v&1 == 1 {
				trues = append(trues, v+1)
			}
		}
		all = append(all, trues)
	}
	return all
}

func TestCnfRightAtItsEdges(t *testing.T) {
	for what, c := range rightCnfs() {
		if !impl.CnfRight(c) {
			t.Errorf("%s: is not right", what)
		}
	}
	for what, c := range wrongCnfs() {
		if impl.CnfRight(c) {
			t.Errorf("%s: is right", what)
		}
		if cnfRightByHand(c) {
			t.Errorf("%s: is right by hand", what)
		}
	}
	for vars := int64(-2); vars <= impl.MaxVars+2; vars++ {
		for _, literal := range []int64{vars - 1, vars, vars + 1, 1 - vars, -vars, -vars - 1, 0, 1, -1} {
			c := impl.Cnf{Vars: vars, Clauses: [][]int64{{literal}}}
			if got := impl.CnfRight(c); got != cnfRightByHand(c) {
				t.Errorf("%d of %d variables: right is told as %v", literal, vars, got)
			}
		}
	}
}

func TestCnfFaultOfWrongThings(t *testing.T) {
	for what, c := range wrongCnfs() {
		for _, trues := range [][]int64{nil, {1}, {1, 2}, {0}, {2, 1}} {
			wantCnfFault(t, what, c, trues, -2)
		}
	}
	c := impl.Cnf{Vars: 5, Clauses: [][]int64{{1, 2}, {-3}}}
	wrong := [][]int64{
		{2, 1}, {1, 3, 2}, {1, 1}, {1, 4, 4}, {0}, {-1}, {0, 1}, {-1, 1}, {1, 0}, {1, -2}, {6}, {1, 6}, {5, 6}, {1, 2, 3, 4, 5, 6},
		{math.MinInt64}, {math.MaxInt64}, {math.MinInt64, 1}, {1, math.MaxInt64}, {1, 2, 2}, {5, 1},
	}
	for _, trues := range wrong {
		wantCnfFault(t, "a right one", c, trues, -2)
		wantCnfFault(t, "no clause", impl.Cnf{Vars: 5}, trues, -2)
		wantCnfFault(t, "no variable", impl.Cnf{}, trues, -2)
		wantCnfFault(t, "a clause of no literal", impl.Cnf{Vars: 5, Clauses: [][]int64{{}}}, trues, -2)
	}
}

func TestCnfFault(t *testing.T) {
	for _, c := range []struct {
		vars    int64
		clauses [][]int64
		trues   []int64
		want    int64
	}{
		{0, nil, nil, -1},
		{0, nil, []int64{}, -1},
		{0, [][]int64{{}}, nil, 0},
		{5, nil, nil, -1},
		{5, nil, []int64{1, 2, 3, 4, 5}, -1},
		{1, [][]int64{{1}}, nil, 0},
		{1, [][]int64{{1}}, []int64{1}, -1},
		{1, [][]int64{{-1}}, nil, -1},
		{1, [][]int64{{-1}}, []int64{1}, 0},
		{1, [][]int64{{1}, {-1}}, []int64{1}, 1},
		{1, [][]int64{{1}, {-1}}, nil, 0},
		{3, [][]int64{{1, 2, 3}}, nil, 0},
		{3, [][]int64{{1, 2, 3}}, []int64{3}, -1},
		{3, [][]int64{{-1, -2, -3}}, []int64{1, 2, 3}, 0},
		{3, [][]int64{{-1, -2, -3}}, []int64{1, 2}, -1},
		{3, [][]int64{{-3, 2}, {-3, 1}, {3}}, []int64{1, 3}, 0},
		{3, [][]int64{{3}, {-3, 1}, {-3, 2}}, []int64{1, 3}, 2},
		{3, [][]int64{{3}, {-3, 1}, {-3, 2}}, []int64{1, 2, 3}, -1},
		{3, [][]int64{{3}, {}, {-3, 2}}, []int64{1, 3}, 1},
		{3, [][]int64{{3}, {-2}, {}}, []int64{3}, 2},
		{impl.MaxVars, [][]int64{{96}, {-1}, {95, -96}}, []int64{96}, 2},
		{impl.MaxVars, [][]int64{{96}, {1}, {95, -96}}, countUp(1, 96), -1},
		{impl.MaxVars, [][]int64{countUp(81, 96)}, countUp(1, 80), 0},
		{impl.MaxVars, [][]int64{countUp(-96, -81)}, countUp(81, 96), 0},
		{impl.MaxVars, [][]int64{countUp(-96, -81)}, countUp(82, 96), -1},
	} {
		cnf := impl.Cnf{Vars: c.vars, Clauses: c.clauses}
		wantCnfFault(t, fmt.Sprint(cnf), cnf, c.trues, c.want)
	}
	many := impl.Cnf{Vars: 2, Clauses: append(clausesOf(impl.MaxClauses-1, -2), []int64{1})}
	wantCnfFault(t, "the last of MaxClauses", many, nil, impl.MaxClauses-1)
	wantCnfFault(t, "the first of MaxClauses", many, []int64{1, 2}, 0)
	wantCnfFault(t, "none of MaxClauses", many, []int64{1}, -1)
}

func TestTruesThatAreTooLong(t *testing.T) {
	table := fourStations()
	c := impl.CnfOf(table, 51, []int64{3})
	trues := make([]int64, impl.MaxList)
	for i := range trues {
		trues[i] = int64(i + 1)
	}
	wantCnfFault(t, "just MaxList", c, trues, -2)
	more := append(trues, impl.MaxList+1)
	for what, c := range map[string]impl.Cnf{"a right one": c, "a wrong one": {Vars: -1}, "one that is true": {Vars: 1}, "one that is not true": {Clauses: [][]int64{{}}}} {
		// The zero answer of what is too long, ahead of the -2 of trues that are not right.
		if got := impl.CnfFault(c, more); got != 0 {
			t.Errorf("%s: the fault of one more than MaxList is told as %d", what, got)
		}
		if impl.CnfTrue(c, more) {
			t.Errorf("%s: one more than MaxList are true", what)
		}
	}
	for _, list := range [][]int64{trues, more} {
		wantPlaces(t, "long trues", impl.PlanOf(table, 51, []int64{3}, list), nil)
		wantPlaces(t, "long ids", impl.PlanOf(table, 51, list, []int64{1}), nil)
		wantCnf(t, "long ids", impl.CnfOf(table, 51, list), impl.Cnf{})
		plan := []impl.Place(nil)
		for range list {
			plan = append(plan, impl.Place{Id: 3, Channel: 4})
		}
		wantNumbers(t, "a long plan", impl.TruesOf(table, 51, plan), nil)
	}
}

func TestCnfFaultByHand(t *testing.T) {
	random := rand.New(rand.NewSource(77))
	counts := map[int64]int{}
	for range 6000 {
		c := impl.Cnf{Vars: random.Int63n(6)}
		for range random.Intn(6) {
			clause := []int64(nil)
			for range random.Intn(4) {
				clause = append(clause, random.Int63n(2*c.Vars+3)-c.Vars-1)
			}
			if random.Intn(8) > 0 {
				clause = slices.DeleteFunc(clause, func(x int64) bool { return x == 0 || max(x, -x) > c.Vars })
				slices.Sort(clause)
				clause = slices.CompactFunc(clause, func(x int64, y int64) bool { return x == y })
			}
			c.Clauses = append(c.Clauses, clause)
		}
		if got := impl.CnfRight(c); got != cnfRightByHand(c) {
			t.Errorf("%v: right is told as %v", c, got)
		}
		for _, trues := range eachTrues(c.Vars + 1) {
			want := clauseFaultByHand(c, trues)
			counts[min(want, 1)]++
			wantCnfFault(t, fmt.Sprint(c), c, trues, want)
		}
	}
	for _, kind := range []int64{-2, -1, 0, 1} {
		if counts[kind] < 1000 {
			t.Errorf("the answers are all of one kind: %v", counts)
		}
	}
}

func TestCnfOf(t *testing.T) {
	table := impl.Table{
		Stations: []impl.Station{
			{Id: 1, Score: 1, Domain: []int64{2, 3, 4}},
			{Id: 2, Score: 1, Domain: []int64{3, 5}},
			{Id: 5, Score: 1, Domain: []int64{4}},
			{Id: 9, Score: 1, Domain: []int64{4, 6}},
		},
		Pairs: []impl.Pair{{A: 1, B: 2, Kind: impl.PairBeside}, {A: 1, B: 5, Kind: impl.PairSame}, {A: 2, B: 9, Kind: impl.PairBeside}, {A: 5, B: 9, Kind: impl.PairSame}},
	}
	for _, c := range []struct {
		top     int64
		ids     []int64
		vars    int64
		clauses [][]int64
	}{
		{51, nil, 0, nil},
		{51, []int64{5}, 1, [][]int64{{1}}},
		{51, []int64{1}, 3, [][]int64{{1, 2, 3}, {-1, -2}, {-1, -3}, {-2, -3}}},
		{3, []int64{1}, 2, [][]int64{{1, 2}, {-1, -2}}},
		{2, []int64{1}, 1, [][]int64{{1}}},
		{1, []int64{1}, 0, [][]int64{{}}},
		{3, []int64{5}, 0, [][]int64{{}}},
		{3, []int64{5, 9}, 0, [][]int64{{}, {}}},
		{3, []int64{1, 5, 9}, 2, [][]int64{{1, 2}, {}, {}, {-1, -2}}},
		{51, []int64{1, 9}, 5, [][]int64{{1, 2, 3}, {4, 5}, {-1, -2}, {-1, -3}, {-2, -3}, {-4, -5}}},
		{51, []int64{1, 2}, 5, [][]int64{{1, 2, 3}, {4, 5}, {-1, -2}, {-1, -3}, {-2, -3}, {-4, -5}, {-1, -4}, {-2, -4}, {-3, -4}, {-3, -5}}},
		{51, []int64{1, 5}, 4, [][]int64{{1, 2, 3}, {4}, {-1, -2}, {-1, -3}, {-2, -3}, {-3, -4}}},
		{51, []int64{2, 9}, 4, [][]int64{{1, 2}, {3, 4}, {-1, -2}, {-3, -4}, {-1, -3}, {-2, -3}, {-2, -4}}},
		{4, []int64{2, 9}, 2, [][]int64{{1}, {2}, {-1, -2}}},
		{51, []int64{1, 2, 5, 9}, 8, [][]int64{
			{1, 2, 3}, {4, 5}, {6}, {7, 8},
			{-1, -2}, {-1, -3}, {-2, -3}, {-4, -5}, {-7, -8},
			{-1, -4}, {-2, -4}, {-3, -4}, {-3, -5},
			{-3, -6},
			{-4, -7}, {-5, -7}, {-5, -8},
			{-6, -7},
		}},
		{math.MaxInt64, []int64{5, 9}, 3, [][]int64{{1}, {2, 3}, {-2, -3}, {-1, -2}}},
		{math.MinInt64, []int64{5, 9}, 0, [][]int64{{}, {}}},
	} {
		want := impl.Cnf{Vars: c.vars, Clauses: c.clauses}
		wantCnf(t, fmt.Sprint(c.ids, " up to ", c.top), impl.CnfOf(table, c.top, c.ids), want)
		wantCnf(t, fmt.Sprint(c.ids, " up to ", c.top, " by hand"), cnfByHand(table, c.top, c.ids), want)
	}
	if got := impl.CnfOf(table, 51, nil); !reflect.DeepEqual(got, impl.Cnf{}) {
		t.Errorf("the Cnf of no Station is %#v", got)
	}
}

func TestCnfOfWrongThings(t *testing.T) {
	table := fourStations()
	for _, ids := range [][]int64{{0}, {-3}, {4}, {22}, {3, 4}, {3, 3}, {8, 3}, {3, 20, 8}, {3, 8, 20, 21, 21}, {math.MinInt64, 3}, {3, math.MaxInt64}} {
		for _, top := range []int64{math.MinInt64, 0, 51, math.MaxInt64} {
			wantCnf(t, fmt.Sprint(ids), impl.CnfOf(table, top, ids), impl.Cnf{})
			for _, trues := range [][]int64{nil, {1}, {1, 3}, {1, 2}} {
				wantPlaces(t, fmt.Sprint(ids), impl.PlanOf(table, top, ids, trues), nil)
			}
		}
	}
	for what, table := range wrongTables() {
		for _, ids := range [][]int64{nil, {5}, {7}, idsByHand(table)} {
			wantCnf(t, what, impl.CnfOf(table, 51, ids), impl.Cnf{})
			for _, trues := range [][]int64{nil, {1}, countUp(1, int64(len(ids)))} {
				wantPlaces(t, what, impl.PlanOf(table, 51, ids, trues), nil)
			}
		}
		for _, s := range table.Stations {
			for _, channel := range s.Domain {
				wantNumbers(t, what, impl.TruesOf(table, 51, placesOf(s.Id, channel)), nil)
			}
		}
		wantNumbers(t, what, impl.TruesOf(table, 51, nil), nil)
	}
}

func TestCnfOfTheMostThereIs(t *testing.T) {
	table := impl.Table{Stations: stationsOf(impl.MaxStations), Pairs: pairsOf(impl.MaxStations, impl.MaxPairs)}
	for i := range table.Stations {
		table.Stations[i].Domain = channels(10, impl.MaxDomain)
	}
	for i := range table.Pairs {
		table.Pairs[i].Kind = impl.PairBeside
	}
	ids := idsByHand(table)
	c := impl.CnfOf(table, 51, ids)
	if c.Vars != impl.MaxVars || len(c.Clauses) != 12+12*28+40*22 || !impl.CnfRight(c) {
		t.Errorf("%d variables, %d clauses, right: %v", c.Vars, len(c.Clauses), impl.CnfRight(c))
	}
	wantCnf(t, "the most there is", c, cnfByHand(table, 51, ids))
}

func TestCnfOfByHand(t *testing.T) {
	t.Parallel()
	random := rand.New(rand.NewSource(7))
	for i := range 2000 {
		table := crowdedTable(random, impl.MaxStations)
		top := int64(random.Intn(10))
		if i%4 == 0 {
			table, top = randomTable(random), random.Int63n(60)
		}
		for _, ids := range [][]int64{someOf(random, idsByHand(table)), idsByHand(table), nil} {
			c := impl.CnfOf(table, top, ids)
			what := fmt.Sprint(table, " up to ", top, " of ", ids)
			wantCnf(t, what, c, cnfByHand(table, top, ids))
			if !impl.CnfRight(c) {
				t.Errorf("%s: the Cnf is not right", what)
			}
		}
	}
}

func TestTruesOf(t *testing.T) {
	table := fourStations()
	random := rand.New(rand.NewSource(6))
	wantNumbers(t, "no plan", impl.TruesOf(table, 51, nil), nil)
	wantNumbers(t, "no plan up to 0", impl.TruesOf(table, 0, []impl.Place{}), nil)
	for range 1500 {
		table := crowdedTable(random, 6)
		top := int64(2 + random.Intn(7))
		plan := []impl.Place(nil)
		for _, id := range someOf(random, idsByHand(table)) {
			domain := domainByHand(table, id, top+1)
			if len(domain) > 0 {
				plan = append(plan, impl.Place{Id: id, Channel: domain[random.Intn(len(domain))]})
			}
		}
		want, last := []int64(nil), int64(0)
		for _, place := range plan {
			domain := domainByHand(table, place.Id, top)
			want = append(want, last+1+int64(slices.Index(domain, place.Channel)))
			last += int64(len(domain))
		}
		if faultByHand(table, top, plan) != 0 {
			want = nil
		}
		wantNumbers(t, fmt.Sprint(table, " up to ", top, " with ", plan), impl.TruesOf(table, top, plan), want)
	}
}

func TestTruesOfWrongPlans(t *testing.T) {
	table := impl.Table{
		Stations: []impl.Station{{Id: 1, Score: 1, Domain: []int64{2, 3}}, {Id: 2, Score: 1, Domain: []int64{2, 3, 4}}, {Id: 7, Score: 1, Domain: []int64{5}}},
		Pairs:    []impl.Pair{{A: 1, B: 2, Kind: impl.PairBeside}},
	}
	wantNumbers(t, "a right one", impl.TruesOf(table, 5, placesOf(1, 2, 2, 4, 7, 5)), []int64{1, 5, 6})
	wantNumbers(t, "up to 4", impl.TruesOf(table, 4, placesOf(1, 2, 2, 4)), []int64{1, 5})
	wantNumbers(t, "of one", impl.TruesOf(table, 5, placesOf(2, 3)), []int64{2})
	wantNumbers(t, "of the last", impl.TruesOf(table, 5, placesOf(7, 5)), []int64{1})
	for _, plan := range [][]impl.Place{
		placesOf(1, 2, 2, 2), placesOf(1, 2, 2, 3), placesOf(1, 4), placesOf(1, 2, 2, 5), placesOf(2, 4, 1, 2), placesOf(1, 2, 1, 2), placesOf(1, 2, 1, 3),
		placesOf(3, 2), placesOf(0, 2), placesOf(1, 0), placesOf(7, 2), placesOf(-1, 2), placesOf(math.MinInt64, math.MaxInt64), placesOf(1, 2, 2, 4, 7, 6),
	} {
		wantNumbers(t, fmt.Sprint(plan), impl.TruesOf(table, 5, plan), nil)
	}
	wantNumbers(t, "above top", impl.TruesOf(table, 3, placesOf(1, 2, 2, 4)), nil)
	wantNumbers(t, "the last above top", impl.TruesOf(table, 4, placesOf(1, 2, 7, 5)), nil)
}

func TestPlanOf(t *testing.T) {
	table := impl.Table{
		Stations: []impl.Station{{Id: 1, Score: 1, Domain: []int64{2, 3}}, {Id: 2, Score: 1, Domain: []int64{2, 3, 4}}, {Id: 7, Score: 1, Domain: []int64{5}}},
		Pairs:    []impl.Pair{{A: 1, B: 2, Kind: impl.PairBeside}},
	}
	all := []int64{1, 2, 7}
	for _, c := range []struct {
		top   int64
		ids   []int64
		trues []int64
		want  []impl.Place
	}{
		{5, all, []int64{1, 5, 6}, placesOf(1, 2, 2, 4, 7, 5)},
		{5, all, []int64{2, 3, 6}, placesOf(1, 3, 2, 2, 7, 5)}, // it has a fault
		{5, all, []int64{1, 3, 6}, placesOf(1, 2, 2, 2, 7, 5)}, // and another
		{5, []int64{1, 2}, []int64{1, 5}, placesOf(1, 2, 2, 4)},
		{5, []int64{2}, []int64{1}, placesOf(2, 2)},
		{5, []int64{2}, []int64{3}, placesOf(2, 4)},
		{3, []int64{2}, []int64{2}, placesOf(2, 3)},
		{5, []int64{1, 7}, []int64{2, 3}, placesOf(1, 3, 7, 5)},
		{5, nil, nil, nil},
		{5, nil, []int64{1}, nil},
		{5, all, nil, nil},
		{5, all, []int64{1}, nil},
		{5, all, []int64{1, 5}, nil},          // none of the last
		{5, all, []int64{3, 6}, nil},          // none of the first
		{5, all, []int64{1, 6}, nil},          // none between
		{5, all, []int64{1, 2, 5, 6}, nil},    // two of the first
		{5, all, []int64{1, 3, 5, 6}, nil},    // two between
		{5, all, []int64{1, 2, 6}, nil},       // two, and none
		{5, all, []int64{3, 4, 6}, nil},       // none, and two
		{5, all, []int64{1, 5, 7}, nil},       // above Vars
		{5, all, []int64{1, 5, 6, 7}, nil},    // one too many
		{5, all, []int64{0, 1, 5, 6}, nil},    // below 1
		{5, all, []int64{0, 5, 6}, nil},       // below 1 in the place of one
		{5, all, []int64{-1, 5, 6}, nil},      // below 0
		{5, all, []int64{1, 6, 5}, nil},       // falling
		{5, all, []int64{5, 1, 6}, nil},       // falling at once
		{5, all, []int64{1, 5, 5, 6}, nil},    // two alike
		{5, all, []int64{1, 1, 5, 6}, nil},    // two alike at once
		{3, []int64{2}, []int64{3}, nil},      // above what top leaves
		{4, all, []int64{1, 5}, nil},          // no variable of the last
		{4, all, []int64{1, 3, 5}, nil},       // two in its place
		{1, []int64{1}, nil, nil},             // no variable at all
		{1, []int64{1}, []int64{1}, nil},      // nor one then
		{5, all, []int64{math.MinInt64}, nil}, // far below
		{5, all, []int64{1, 5, math.MaxInt64}, nil},
	} {
		wantPlaces(t, fmt.Sprint(c.ids, " with ", c.trues, " up to ", c.top), impl.PlanOf(table, c.top, c.ids, c.trues), c.want)
	}
}

// Promise 11: there and back from each right plan.
func TestRightPlansComeBackFromTheirTrues(t *testing.T) {
	t.Parallel()
	random := rand.New(rand.NewSource(11))
	plans := 0
	for i := range 600 {
		table := crowdedTable(random, impl.MaxStations)
		top := int64(2 + random.Intn(7))
		if i%4 == 0 {
			table, top = randomTable(random), random.Int63n(60)
		}
		ids := someOf(random, idsByHand(table))
		for _, few := range [][]int64{ids[:min(4, len(ids))], ids[:min(1, len(ids))], ids[max(0, len(ids)-3):]} {
			c := impl.CnfOf(table, top, few)
			for _, plan := range plansByHand(table, top, few, nil) {
				plans++
				what := fmt.Sprint(table, " up to ", top, " with ", plan)
				trues := impl.TruesOf(table, top, plan)
				wantPlaces(t, what, impl.PlanOf(table, top, few, trues), plan)
				wantCnfFault(t, what, c, trues, -1)
				if len(trues) != len(few) {
					t.Errorf("%s: the trues are %v", what, trues)
				}
			}
		}
	}
	if plans < 10000 {
		t.Errorf("only %d plans", plans)
	}
}

// Promise 11: there and back from all trues, and these are true just if they are a right plan's.
func TestTruesAreTrueJustIfARightPlans(t *testing.T) {
	t.Parallel()
	random := rand.New(rand.NewSource(111))
	trueOnes, faulty, none := 0, 0, 0
	for range 2000 {
		table := crowdedTable(random, 4)
		top := int64(1 + random.Intn(6))
		ids := someOf(random, idsByHand(table))
		c := impl.CnfOf(table, top, ids)
		if c.Vars > 9 {
			continue
		}
		right := 0
		for _, trues := range eachTrues(c.Vars) {
			what := fmt.Sprint(table, " up to ", top, " of ", ids, " with ", trues)
			plan := impl.PlanOf(table, top, ids, trues)
			is := len(plan) == len(ids) && len(trues) == len(ids) && faultByHand(table, top, plan) == 0
			if got := impl.CnfTrue(c, trues); got != is {
				t.Errorf("%s: true is told as %v, the plan is %v", what, got, plan)
			}
			if is {
				right++
				wantNumbers(t, what, impl.TruesOf(table, top, plan), trues)
			} else if len(plan) > 0 {
				faulty++
				wantNumbers(t, what, impl.TruesOf(table, top, plan), nil)
			} else {
				none++
			}
		}
		trueOnes += right
		if want := len(plansByHand(table, top, ids, nil)); right != want {
			t.Errorf("%v up to %d of %v: %d trues are true, there are %d plans", table, top, ids, right, want)
		}
	}
	if trueOnes < 500 || faulty < 500 || none < 500 {
		t.Errorf("%d true, %d with a fault, %d of no plan", trueOnes, faulty, none)
	}
}

// roomyCnf: the same clauses, with room behind each list, in which a wrong append would be seen.
func roomyCnf(c impl.Cnf) impl.Cnf {
	clauses := make([][]int64, 0, len(c.Clauses)+3)
	for _, clause := range c.Clauses {
		clauses = append(clauses, roomyIds(clause))
	}
	return impl.Cnf{Vars: c.Vars, Clauses: clauses}
}

// allOfCnf: a copy of all that lies in the lists of clauses, and behind them.
func allOfCnf(c impl.Cnf) [][]int64 {
	all := [][]int64(nil)
	for _, clause := range c.Clauses[:cap(c.Clauses)] {
		all = append(all, slices.Clone(clause[:cap(clause)]))
	}
	return all
}

func TestClausesAreNotChangedNorShared(t *testing.T) {
	random := rand.New(rand.NewSource(600))
	for range 300 {
		table := spacious(crowdedTable(random, 7))
		tableBefore := beyond(table)
		top := int64(2 + random.Intn(7))
		ids := roomyIds(someOf(random, idsByHand(table)))
		idsBefore := slices.Clone(ids[:cap(ids)])
		plan := roomyPlan(impl.PlanFind(table, top, ids, impl.MaxBudget).Plan)
		planBefore := slices.Clone(plan[:cap(plan)])
		trues := roomyIds(impl.TruesOf(table, top, plan))
		truesBefore := slices.Clone(trues[:cap(trues)])
		c := roomyCnf(impl.CnfOf(table, top, ids))
		clausesBefore := allOfCnf(c)
		impl.CnfRight(c)
		impl.CnfTrue(c, trues)
		impl.CnfFault(c, trues)
		spoilNumbers(impl.TruesOf(table, top, plan))
		spoilPlaces(impl.PlanOf(table, top, ids, trues))
		for _, clause := range impl.CnfOf(table, top, ids).Clauses {
			spoilNumbers(clause)
		}
		if !tablesAlike(beyond(table), tableBefore) || !slices.Equal(ids[:cap(ids)], idsBefore) || !slices.Equal(plan[:cap(plan)], planBefore) ||
			!slices.Equal(trues[:cap(trues)], truesBefore) || !slices.EqualFunc(allOfCnf(c), clausesBefore, slices.Equal[[]int64]) {
			t.Errorf("%v up to %d of %v: what was handed in is changed, or an answer shares its memory", table, top, ids)
		}
	}
}

func TestClausesOfOneCnfShareNoMemory(t *testing.T) {
	random := rand.New(rand.NewSource(601))
	for range 300 {
		table := crowdedTable(random, impl.MaxStations)
		ids := idsByHand(table)
		c := impl.CnfOf(table, 51, ids)
		want := impl.CnfOf(table, 51, ids)
		for i, clause := range c.Clauses {
			spoilNumbers(clause)
			if !slices.EqualFunc(c.Clauses[i+1:], want.Clauses[i+1:], slices.Equal[[]int64]) {
				t.Fatalf("%v: the clauses behind place %d are changed with it", table, i)
			}
		}
		c = impl.CnfOf(table, 51, ids)
		for i, clause := range slices.Backward(c.Clauses) {
			spoilNumbers(clause)
			if !slices.EqualFunc(c.Clauses[:i], want.Clauses[:i], slices.Equal[[]int64]) {
				t.Fatalf("%v: the clauses ahead of place %d are changed with it", table, i)
			}
		}
		wantCnf(t, "again", impl.CnfOf(table, 51, ids), want)
	}
}
