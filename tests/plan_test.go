package tests

import (
	"fmt"
	"math"
	"math/rand"
	"slices"
	"testing"

	"loop.example/g00144/impl"
)

// crowdedTable: a right one of up to so many Stations, in few channels, so that many places are not free.
func crowdedTable(random *rand.Rand, stations int) impl.Table {
	t := impl.Table{Stations: stationsOf(1 + random.Intn(stations))}
	span := 1 + random.Intn(6)
	for i := range t.Stations {
		t.Stations[i].Id = int64(3*i + 2)
		domain := []int64(nil)
		for _, c := range random.Perm(span)[:1+random.Intn(span)] {
			domain = append(domain, impl.LowChannel+int64(c))
		}
		slices.Sort(domain)
		t.Stations[i].Domain = domain
	}
	for i, a := range t.Stations {
		for _, b := range t.Stations[i+1:] {
			if random.Intn(4) > 0 && len(t.Pairs) < impl.MaxPairs {
				t.Pairs = append(t.Pairs, impl.Pair{A: a.Id, B: b.Id, Kind: 1 + random.Int63n(2)})
			}
		}
	}
	return t
}

// placesOf: a plan of Ids and channels, in turn.
func placesOf(numbers ...int64) []impl.Place {
	plan := []impl.Place(nil)
	for i := 0; i < len(numbers); i += 2 {
		plan = append(plan, impl.Place{Id: numbers[i], Channel: numbers[i+1]})
	}
	return plan
}

// idsByHand: all Ids of a table, as they stand.
func idsByHand(table impl.Table) []int64 {
	ids := []int64(nil)
	for _, s := range table.Stations {
		ids = append(ids, s.Id)
	}
	return ids
}

// idsRightByHand: each is greater than the one ahead of it, and a Station's.
func idsRightByHand(table impl.Table, ids []int64) bool {
	own := idsByHand(table)
	for i, id := range ids {
		if !slices.Contains(own, id) || i > 0 && id <= ids[i-1] {
			return false
		}
	}
	return rightByHand(table)
}

// mayHaveByHand: what the document's chapter 5 says of two Stations and two channels.
func mayHaveByHand(table impl.Table, x impl.Place, y impl.Place) bool {
	for _, p := range table.Pairs {
		if p.A == x.Id && p.B == y.Id || p.A == y.Id && p.B == x.Id {
			if x.Channel == y.Channel {
				return false
			}
			if p.Kind == impl.PairBeside && (x.Channel == y.Channel+1 || y.Channel == x.Channel+1) {
				return false
			}
		}
	}
	return true
}

// faultByHand: what PlanFault is to tell of a plan of up to MaxList places.
func faultByHand(table impl.Table, top int64, plan []impl.Place) int64 {
	ids := []int64(nil)
	for _, p := range plan {
		ids = append(ids, p.Id)
	}
	if !idsRightByHand(table, ids) {
		return -1
	}
	for i, p := range plan {
		if !slices.Contains(domainByHand(table, p.Id, top), p.Channel) {
			return p.Id
		}
		for _, ahead := range plan[:i] {
			if !mayHaveByHand(table, ahead, p) {
				return p.Id
			}
		}
	}
	return 0
}

// addByHand: each channel there may be is tried, and the plan with it asked as a whole.
func addByHand(table impl.Table, top int64, plan []impl.Place, id int64) []impl.Place {
	if faultByHand(table, top, plan) != 0 {
		return nil
	}
	for c := int64(impl.LowChannel); c <= impl.HighChannel; c++ {
		more := append(slices.Clone(plan), impl.Place{Id: id, Channel: c})
		slices.SortStableFunc(more, func(x impl.Place, y impl.Place) int { return int(x.Id - y.Id) })
		if faultByHand(table, top, more) == 0 {
			return more
		}
	}
	return nil
}

// seekByHand: the plan behind those ahead, with the steps that it takes; it is left at many steps.
func seekByHand(table impl.Table, top int64, ids []int64, ahead []impl.Place, steps *int64) ([]impl.Place, bool) {
	if len(ahead) == len(ids) {
		return ahead, true
	}
	id := ids[len(ahead)]
	for _, c := range domainByHand(table, id, top) {
		if *steps > impl.MaxBudget {
			return nil, false
		}
		*steps++
		place := impl.Place{Id: id, Channel: c}
		if slices.ContainsFunc(ahead, func(p impl.Place) bool { return !mayHaveByHand(table, p, place) }) {
			continue
		}
		if plan, ok := seekByHand(table, top, ids, append(slices.Clone(ahead), place), steps); ok {
			return plan, true
		}
	}
	return nil, false
}

// findByHand: what PlanFind is to tell of right ids and a right budget.
func findByHand(table impl.Table, top int64, ids []int64, budget int64) impl.PlanOut {
	steps := int64(0)
	plan, ok := seekByHand(table, top, ids, nil, &steps)
	if steps > budget {
		return impl.PlanOut{Verdict: impl.Unknown, Steps: budget}
	}
	if !ok {
		return impl.PlanOut{Verdict: impl.No, Steps: steps}
	}
	return impl.PlanOut{Verdict: impl.Yes, Plan: plan, Steps: steps}
}

// firstByHand: the first right plan of all lists of channels, gone through in their order.
func firstByHand(table impl.Table, top int64, ids []int64) ([]impl.Place, bool) {
	domains := [][]int64(nil)
	all := 1
	for _, id := range ids {
		domain := domainByHand(table, id, top)
		domains = append(domains, domain)
		all *= len(domain)
	}
	for count := range all {
		plan := make([]impl.Place, len(ids))
		for i := len(ids) - 1; i >= 0; i-- {
			plan[i] = impl.Place{Id: ids[i], Channel: domains[i][count%len(domains[i])]}
			count /= len(domains[i])
		}
		if faultByHand(table, top, plan) == 0 {
			return plan, true
		}
	}
	return nil, false
}

// someOf: some of a list, in its order.
func someOf(random *rand.Rand, list []int64) []int64 {
	some := []int64(nil)
	often := 1 + random.Intn(8)
	for _, v := range list {
		if random.Intn(8) < often {
			some = append(some, v)
		}
	}
	return some
}

// wantFound: an empty list and none are the same.
func wantFound(t *testing.T, what string, got impl.PlanOut, want impl.PlanOut) {
	t.Helper()
	if got.Verdict != want.Verdict || got.Steps != want.Steps || got.Code != want.Code || !slices.Equal(got.Plan, want.Plan) {
		t.Errorf("%s: got %+v, want %+v", what, got, want)
	}
}

func wantPlaces(t *testing.T, what string, got []impl.Place, want []impl.Place) {
	t.Helper()
	if !slices.Equal(got, want) {
		t.Errorf("%s: got %v, want %v", what, got, want)
	}
}

// wantPlanFault: and a plan is right just if there is none.
func wantPlanFault(t *testing.T, what string, table impl.Table, top int64, plan []impl.Place, want int64) {
	t.Helper()
	if got := impl.PlanFault(table, top, plan); got != want {
		t.Errorf("%s: the fault of %v up to %d is told as %d, want %d", what, plan, top, got, want)
	}
	if got := impl.PlanRight(table, top, plan); got != (want == 0) {
		t.Errorf("%s: %v up to %d is right: %v", what, plan, top, got)
	}
}

// fourStations: both kinds of Pairs, and one Station that is in none.
func fourStations() impl.Table {
	return impl.Table{
		Stations: []impl.Station{
			{Id: 3, Score: 1, Domain: []int64{4, 5, 6, 7, 8}},
			{Id: 8, Score: 2, Domain: []int64{3, 4, 5, 6}},
			{Id: 20, Score: 3, Domain: []int64{4, 5, 6, 7, 8, 9}},
			{Id: 21, Score: 4, Domain: []int64{6, 51}},
		},
		Pairs: []impl.Pair{{A: 3, B: 8, Kind: impl.PairSame}, {A: 3, B: 20, Kind: impl.PairBeside}},
	}
}

func TestPlanFaultAtItsEdges(t *testing.T) {
	table := fourStations()
	for _, c := range []struct {
		what string
		top  int64
		plan []impl.Place
		want int64
	}{
		{"no Id", 51, nil, 0},
		{"an empty list", 51, []impl.Place{}, 0},
		{"no Id, the least top", math.MinInt64, nil, 0},
		{"one Id", 51, placesOf(8, 3), 0},
		{"all Ids", 51, placesOf(3, 4, 8, 5, 20, 6, 21, 6), 0},
		{"no Station's Id", 51, placesOf(4, 4), -1},
		{"no Station's Id behind", 51, placesOf(3, 4, 22, 6), -1},
		{"Id 0", 51, placesOf(0, 4), -1},
		{"an Id below 0", 51, placesOf(-3, 4), -1},
		{"the least Id there is", 51, placesOf(math.MinInt64, 4, 3, 4), -1},
		{"the greatest Id there is", 51, placesOf(3, 4, math.MaxInt64, 4), -1},
		{"two alike", 51, placesOf(3, 4, 3, 4), -1},
		{"two alike of two channels", 51, placesOf(3, 4, 3, 6), -1},
		{"Ids falling", 51, placesOf(8, 3, 3, 4), -1},
		{"Ids falling at last", 51, placesOf(3, 4, 20, 6, 8, 3), -1},
		{"a wrong Channel ahead of wrong Ids", 51, placesOf(3, 99, 2, 4), -1},
		{"a Channel below the Domain", 51, placesOf(3, 3), 3},
		{"a Channel above the Domain", 51, placesOf(3, 9), 3},
		{"a Channel between two of the Domain", 51, placesOf(21, 7), 21},
		{"Channel 0", 51, placesOf(3, 0), 3},
		{"a Channel below 0", 51, placesOf(3, -4), 3},
		{"the least Channel there is", 51, placesOf(3, math.MinInt64, 20, math.MaxInt64), 3},
		{"the greatest Channel there is", math.MaxInt64, placesOf(3, math.MaxInt64, 20, math.MinInt64), 3},
		{"the second one's Channel", 51, placesOf(3, 4, 20, math.MinInt64), 20},
		{"the third one's Channel", 51, placesOf(3, 4, 8, 3, 20, 51), 20},
		{"the last one's Channel", 51, placesOf(3, 4, 8, 3, 20, 6, 21, 50), 21},
		{"of two wrong the first", 51, placesOf(3, 4, 8, 99, 20, 99), 8},
		{"below top", 7, placesOf(3, 6), 0},
		{"at top", 6, placesOf(3, 6), 0},
		{"above top", 5, placesOf(3, 6), 3},
		{"above top, the last one", 50, placesOf(3, 4, 21, 51), 21},
		{"at top, the last one", 51, placesOf(3, 4, 21, 51), 0},
		{"a top below every channel", 2, placesOf(3, 4), 3},
		{"top 0", 0, placesOf(3, 4), 3},
		{"a top below 0", -1, placesOf(3, 4), 3},
		{"the least top there is", math.MinInt64, placesOf(3, 4), 3},
		{"the greatest top there is", math.MaxInt64, placesOf(3, 4, 8, 3), 0},
		{"first kind, the same", 51, placesOf(3, 5, 8, 5), 8},
		{"first kind, one below", 51, placesOf(3, 5, 8, 4), 0},
		{"first kind, one above", 51, placesOf(3, 5, 8, 6), 0},
		{"second kind, the same", 51, placesOf(3, 6, 20, 6), 20},
		{"second kind, one below", 51, placesOf(3, 6, 20, 5), 20},
		{"second kind, one above", 51, placesOf(3, 6, 20, 7), 20},
		{"second kind, two below", 51, placesOf(3, 6, 20, 4), 0},
		{"second kind, two above", 51, placesOf(3, 6, 20, 8), 0},
		{"no Pair, the same", 51, placesOf(3, 6, 21, 6), 0},
		{"no Pair of the two behind, the same", 51, placesOf(3, 4, 8, 6, 20, 6), 0},
		{"no Pair of the two behind, neighbours", 51, placesOf(8, 5, 20, 6), 0},
		{"with one ahead, not the one next to it", 51, placesOf(3, 5, 8, 3, 20, 4), 20},
		{"of two that have none beside them the first", 51, placesOf(3, 5, 8, 5, 20, 5), 8},
		{"with a fault of its own behind one that has none", 51, placesOf(3, 5, 8, 5, 20, 99), 8},
		{"a fault of its own ahead of one with another", 51, placesOf(3, 99, 8, 5, 20, 5), 3},
	} {
		wantPlanFault(t, c.what, table, c.top, c.plan, c.want)
		if by := faultByHand(table, c.top, c.plan); by != c.want {
			t.Errorf("%s: by hand %d", c.what, by)
		}
	}
}

func TestPlanFaultOfWrongTables(t *testing.T) {
	for what, table := range wrongTables() {
		for _, top := range []int64{math.MinInt64, 0, 51, math.MaxInt64} {
			wantPlanFault(t, what, table, top, nil, -1)
			wantPlanFault(t, what, table, top, placesOf(5, 2), -1)
			wantPlanFault(t, what, table, top, placesOf(7, 2), -1)
		}
	}
}

func TestPlanFaultByHand(t *testing.T) {
	t.Parallel()
	random := rand.New(rand.NewSource(5))
	counts := map[int64]int{}
	for range 20000 {
		table := crowdedTable(random, impl.MaxStations)
		top := int64(random.Intn(10))
		plan := []impl.Place(nil)
		for _, id := range someOf(random, idsByHand(table)) {
			plan = append(plan, impl.Place{Id: id, Channel: int64(random.Intn(7) + 1)})
			if free := domainByHand(table, id, top); len(free) > 0 && random.Intn(12) > 0 {
				plan[len(plan)-1].Channel = free[random.Intn(len(free))]
			}
		}
		if len(plan) > 1 && random.Intn(8) == 0 {
			plan[random.Intn(len(plan))].Id = int64(random.Intn(40))
		}
		want := faultByHand(table, top, plan)
		counts[min(want, 1)]++
		wantPlanFault(t, fmt.Sprint(table), table, top, plan, want)
	}
	if counts[-1] < 500 || counts[0] < 500 || counts[1] < 500 {
		t.Errorf("the plans are all of one kind: %v", counts)
	}
}

func TestIdsRight(t *testing.T) {
	table := fourStations()
	for _, c := range []struct {
		ids  []int64
		want bool
	}{
		{nil, true}, {[]int64{}, true}, {[]int64{3}, true}, {[]int64{8}, true}, {[]int64{21}, true},
		{[]int64{3, 8, 20, 21}, true}, {[]int64{3, 21}, true}, {[]int64{8, 20}, true},
		{[]int64{0}, false}, {[]int64{-3}, false}, {[]int64{4}, false}, {[]int64{22}, false}, {[]int64{3, 4}, false}, {[]int64{7, 8}, false},
		{[]int64{3, 3}, false}, {[]int64{8, 3}, false}, {[]int64{3, 20, 8}, false}, {[]int64{3, 8, 20, 21, 21}, false},
		{[]int64{3, 8, 20, 21, 22}, false}, {[]int64{21, 20, 8, 3}, false}, {[]int64{math.MinInt64}, false}, {[]int64{3, math.MaxInt64}, false},
	} {
		if got := impl.IdsRight(table, c.ids); got != c.want {
			t.Errorf("%v: got %v", c.ids, got)
		}
	}
	for what, table := range rightTables() {
		all := idsByHand(table)
		for _, ids := range [][]int64{nil, all, all[:1], all[1:], all[len(all)-1:]} {
			if !impl.IdsRight(table, ids) {
				t.Errorf("%s: %v should be right", what, ids)
			}
		}
		for _, id := range idsAround(table) {
			if got := impl.IdsRight(table, []int64{id}); got != slices.Contains(all, id) {
				t.Errorf("%s: %d alone: got %v", what, id, got)
			}
			if impl.IdsRight(table, append(slices.Clone(all), id)) != idsRightByHand(table, append(slices.Clone(all), id)) {
				t.Errorf("%s: %d behind all others", what, id)
			}
		}
	}
	for what, table := range wrongTables() {
		if impl.IdsRight(table, nil) || impl.IdsRight(table, []int64{7}) || impl.IdsRight(table, idsByHand(table)) {
			t.Errorf("%s: its Ids should be wrong", what)
		}
	}
}

func TestPlanIds(t *testing.T) {
	wantNumbers(t, "none", impl.PlanIds(nil), nil)
	wantNumbers(t, "an empty list", impl.PlanIds([]impl.Place{}), nil)
	wantNumbers(t, "one", impl.PlanIds(placesOf(3, 4)), []int64{3})
	wantNumbers(t, "as they stand", impl.PlanIds(placesOf(9, 4, 9, 5, 3, 3, 0, 1, -5, 2)), []int64{9, 9, 3, 0, -5})
	wantNumbers(t, "far out", impl.PlanIds(placesOf(math.MaxInt64, math.MinInt64, math.MinInt64, 7)), []int64{math.MaxInt64, math.MinInt64})
	many, want := []impl.Place(nil), []int64(nil)
	for i := range int64(impl.MaxList) {
		many, want = append(many, impl.Place{Id: i % 7, Channel: -i}), append(want, i%7)
	}
	wantNumbers(t, "just MaxList", impl.PlanIds(many), want)
	wantNumbers(t, "one more", impl.PlanIds(append(many, impl.Place{Id: 1, Channel: 2})), nil)
}

func TestPlanAdd(t *testing.T) {
	table := fourStations()
	for _, c := range []struct {
		what string
		top  int64
		plan []impl.Place
		id   int64
		want []impl.Place
	}{
		{"the first of all", 51, nil, 8, placesOf(8, 3)},
		{"an empty list", 51, []impl.Place{}, 3, placesOf(3, 4)},
		{"ahead of all others", 51, placesOf(8, 4, 20, 8), 3, placesOf(3, 5, 8, 4, 20, 8)},
		{"between two", 51, placesOf(3, 4, 21, 6), 8, placesOf(3, 4, 8, 3, 21, 6)},
		{"behind all others", 51, placesOf(3, 4, 8, 3), 21, placesOf(3, 4, 8, 3, 21, 6)},
		{"the least is taken", 51, placesOf(8, 4), 3, placesOf(3, 5, 8, 4)},
		{"a neighbour is taken", 51, placesOf(20, 5), 3, placesOf(3, 7, 20, 5)},
		{"the second kind, behind", 51, placesOf(3, 4), 20, placesOf(3, 4, 20, 6)},
		{"both kinds", 51, placesOf(8, 6, 20, 4), 3, placesOf(3, 7, 8, 6, 20, 4)},
		{"two below is free", 51, placesOf(20, 6), 3, placesOf(3, 4, 20, 6)},
		{"only the last is free", 8, placesOf(8, 4, 20, 6), 3, placesOf(3, 8, 8, 4, 20, 6)},
		{"the only free one is above top", 7, placesOf(8, 4, 20, 6), 3, nil},
		{"the last one at top", 6, placesOf(3, 4), 20, placesOf(3, 4, 20, 6)},
		{"the last one above top", 5, placesOf(3, 4), 20, nil},
		{"no channel up to top", 5, placesOf(3, 4), 21, nil},
		{"a top below every channel", 2, nil, 3, nil},
		{"top 0", 0, nil, 3, nil},
		{"a top below 0", -4, nil, 3, nil},
		{"the greatest top there is", math.MaxInt64, nil, 21, placesOf(21, 6)},
		{"in it already", 51, placesOf(3, 4, 8, 3), 3, nil},
		{"in it already, at last", 51, placesOf(3, 4, 8, 3), 8, nil},
		{"no Station's Id", 51, placesOf(3, 4), 9, nil},
		{"Id 0", 51, placesOf(3, 4), 0, nil},
		{"the least Id there is", 51, placesOf(3, 4), math.MinInt64, nil},
		{"the greatest Id there is", 51, placesOf(3, 4), math.MaxInt64, nil},
		{"a plan with a Channel out of the Domain", 51, placesOf(3, 3), 8, nil},
		{"a plan with a Channel above top", 5, placesOf(3, 6), 8, nil},
		{"a plan with two that may not be", 51, placesOf(3, 5, 8, 5), 21, nil},
		{"a plan of wrong Ids", 51, placesOf(8, 3, 3, 4), 21, nil},
		{"a plan of two alike", 51, placesOf(3, 4, 3, 4), 21, nil},
		{"a plan of no Station's Id", 51, placesOf(9, 4), 21, nil},
	} {
		wantPlaces(t, c.what, impl.PlanAdd(table, c.top, c.plan, c.id), c.want)
		wantPlaces(t, c.what+", by hand", addByHand(table, c.top, c.plan, c.id), c.want)
	}
	for what, table := range wrongTables() {
		for _, id := range []int64{1, 5, 7, 12} {
			wantPlaces(t, what, impl.PlanAdd(table, 51, nil, id), nil)
			wantPlaces(t, what, impl.PlanAdd(table, 51, placesOf(5, 2), id), nil)
		}
	}
}

// A Station whose every channel is taken by those of its Pairs, each by another one.
func TestPlanAddHasNoFreeChannel(t *testing.T) {
	table := impl.Table{Stations: stationsOf(impl.MaxStations)}
	plan := []impl.Place(nil)
	for i := range table.Stations {
		table.Stations[i].Domain = channels(2, impl.MaxDomain)
		if i > 0 && i <= impl.MaxDomain {
			table.Pairs = append(table.Pairs, impl.Pair{A: 1, B: int64(i + 1), Kind: impl.PairSame})
			plan = append(plan, impl.Place{Id: int64(i + 1), Channel: int64(i + 1)})
		}
	}
	wantPlaces(t, "none", impl.PlanAdd(table, 51, plan, 1), nil)
	last := plan[:impl.MaxDomain-1]
	want := append(placesOf(1, 9), last...)
	wantPlaces(t, "the last of the Domain", impl.PlanAdd(table, 51, last, 1), want)
	wantPlaces(t, "the last of the Domain at top", impl.PlanAdd(table, 9, last, 1), want)
	wantPlaces(t, "the last of the Domain above top", impl.PlanAdd(table, 8, last, 1), nil)
	wantPlaces(t, "without a Pair", impl.PlanAdd(table, 9, plan, 12), append(slices.Clone(plan), impl.Place{Id: 12, Channel: 2}))
}

// Promise 9.
func TestAddedStationLeavesTheOthers(t *testing.T) {
	t.Parallel()
	random := rand.New(rand.NewSource(9))
	added, refused := 0, 0
	for range 2500 {
		table := crowdedTable(random, impl.MaxStations)
		top := int64(2 + random.Intn(7))
		plan := []impl.Place(nil)
		for _, i := range random.Perm(len(table.Stations)) {
			id := table.Stations[i].Id
			got := impl.PlanAdd(table, top, plan, id)
			wantPlaces(t, fmt.Sprint(table, plan, id), got, addByHand(table, top, plan, id))
			if len(got) == 0 {
				refused++
				continue
			}
			added++
			if !impl.PlanRight(table, top, got) || len(got) != len(plan)+1 {
				t.Errorf("%v: %v with %d is %v", table, plan, id, got)
			}
			for _, p := range plan {
				if !slices.Contains(got, p) {
					t.Errorf("%v: %v with %d is %v, others are moved", table, plan, id, got)
				}
			}
			plan = got
		}
	}
	if added < 1000 || refused < 1000 {
		t.Errorf("%d added, %d refused", added, refused)
	}
}

func TestPlanFind(t *testing.T) {
	table := fourStations()
	all := []int64{3, 8, 20, 21}
	yes := func(steps int64, numbers ...int64) impl.PlanOut {
		return impl.PlanOut{Verdict: impl.Yes, Plan: placesOf(numbers...), Steps: steps}
	}
	no := func(steps int64) impl.PlanOut {
		return impl.PlanOut{Verdict: impl.No, Steps: steps}
	}
	for _, c := range []struct {
		what string
		top  int64
		ids  []int64
		want impl.PlanOut
	}{
		{"all", 51, all, yes(6, 3, 4, 8, 3, 20, 6, 21, 6)},
		{"no Id", 51, nil, yes(0)},
		{"an empty list", 51, []int64{}, yes(0)},
		{"no Id, the least top", math.MinInt64, nil, yes(0)},
		{"one", 51, []int64{20}, yes(1, 20, 4)},
		{"one at top", 6, []int64{21}, yes(1, 21, 6)},
		{"one above top", 5, []int64{21}, no(0)},
		{"two without a Pair", 51, []int64{8, 20}, yes(2, 8, 3, 20, 4)},
		{"a second kind", 51, []int64{3, 20}, yes(4, 3, 4, 20, 6)},
		{"a first kind at top 4", 4, []int64{3, 8}, yes(2, 3, 4, 8, 3)},
		{"a second kind that has none", 5, []int64{3, 20}, no(6)},
		{"a second kind at top 6", 6, []int64{3, 20}, yes(4, 3, 4, 20, 6)},
		{"a second kind at top 4", 4, []int64{3, 20}, no(2)},
		{"the last one has no channel", 5, []int64{3, 8, 21}, no(8)},
		{"the first one has no channel", 3, []int64{3, 8}, no(0)},
		{"a top below every channel", 2, all, no(0)},
		{"top 0", 0, all, no(0)},
		{"a top below 0", -51, all, no(0)},
		{"the least top there is", math.MinInt64, all, no(0)},
		{"the greatest top there is", math.MaxInt64, all, yes(6, 3, 4, 8, 3, 20, 6, 21, 6)},
	} {
		got := impl.PlanFind(table, c.top, c.ids, impl.MaxBudget)
		wantFound(t, c.what, got, c.want)
		wantFound(t, c.what+", just the steps", impl.PlanFind(table, c.top, c.ids, c.want.Steps), c.want)
		if c.want.Steps > 0 {
			less := impl.PlanOut{Verdict: impl.Unknown, Steps: c.want.Steps - 1}
			wantFound(t, c.what+", one less", impl.PlanFind(table, c.top, c.ids, c.want.Steps-1), less)
			wantFound(t, c.what+", none", impl.PlanFind(table, c.top, c.ids, 0), impl.PlanOut{Verdict: impl.Unknown})
		}
		wantFound(t, c.what+", by hand", findByHand(table, c.top, c.ids, impl.MaxBudget), c.want)
	}
}

// It goes back over more than one Station: the first one's first channel is wrong for the last one alone.
func TestPlanFindGoesBack(t *testing.T) {
	table := impl.Table{
		Stations: []impl.Station{
			{Id: 1, Score: 1, Domain: []int64{2, 9}},
			{Id: 2, Score: 1, Domain: []int64{2, 3}},
			{Id: 3, Score: 1, Domain: []int64{2, 3, 4}},
			{Id: 4, Score: 1, Domain: []int64{3}},
		},
		Pairs: []impl.Pair{{A: 1, B: 4, Kind: impl.PairBeside}},
	}
	want := impl.PlanOut{Verdict: impl.Yes, Plan: placesOf(1, 9, 2, 2, 3, 2, 4, 3), Steps: 1 + 2 + 6 + 6 + 4}
	wantFound(t, "back", impl.PlanFind(table, 51, []int64{1, 2, 3, 4}, impl.MaxBudget), want)
	wantFound(t, "no way", impl.PlanFind(table, 8, []int64{1, 2, 3, 4}, impl.MaxBudget), impl.PlanOut{Verdict: impl.No, Steps: 1 + 2 + 6 + 6})
}

func TestPlanFindOfWrongThings(t *testing.T) {
	form := impl.PlanOut{Code: impl.ErrForm}
	table := fourStations()
	for _, ids := range [][]int64{{0}, {-3}, {4}, {22}, {3, 4}, {3, 3}, {8, 3}, {3, 20, 8}, {3, 8, 20, 21, 21}, {math.MinInt64, 3}, {3, math.MaxInt64}} {
		for _, top := range []int64{math.MinInt64, 0, 51, math.MaxInt64} {
			for _, budget := range []int64{-1, 0, 100, impl.MaxBudget, impl.MaxBudget + 1} {
				wantFound(t, fmt.Sprint(ids), impl.PlanFind(table, top, ids, budget), form)
			}
		}
	}
	for _, budget := range []int64{-1, -2, impl.MaxBudget + 1, math.MinInt64, math.MaxInt64} {
		for _, ids := range [][]int64{nil, {3}, {3, 8, 20, 21}} {
			wantFound(t, fmt.Sprint(ids, " in ", budget), impl.PlanFind(table, 51, ids, budget), form)
			wantFound(t, fmt.Sprint(ids, " in ", budget, " up to 0"), impl.PlanFind(table, 0, ids, budget), form)
		}
	}
	for what, table := range wrongTables() {
		for _, ids := range [][]int64{nil, {5}, {7}, idsByHand(table)} {
			if len(ids) <= impl.MaxList {
				wantFound(t, what, impl.PlanFind(table, 51, ids, 100), form)
			}
		}
	}
}

// freeTable: Stations in no Pair, of so many channels each, and a last one that has none up to channel 20.
func freeTable(sizes ...int) (impl.Table, []int64) {
	table := impl.Table{Stations: stationsOf(len(sizes) + 1)}
	for i, size := range sizes {
		table.Stations[i].Domain = channels(2, size)
	}
	table.Stations[len(sizes)].Domain = []int64{21}
	return table, idsByHand(table)
}

func TestPlanFindAtMaxBudget(t *testing.T) {
	// 8 + 8*3 + 8*3*2 + 8*3*2*8 + 8*3*2*8*4 channels are given, and 3 + 3*6 + 3*6*5 + 3*6*5*7 + 3*6*5*7*2.
	table, ids := freeTable(8, 3, 2, 8, 4)
	wantFound(t, "just MaxBudget", impl.PlanFind(table, 20, ids, impl.MaxBudget), impl.PlanOut{Verdict: impl.No, Steps: impl.MaxBudget})
	wantFound(t, "one less", impl.PlanFind(table, 20, ids, impl.MaxBudget-1), impl.PlanOut{Verdict: impl.Unknown, Steps: impl.MaxBudget - 1})
	table, ids = freeTable(3, 6, 5, 7, 2)
	wantFound(t, "one too many", impl.PlanFind(table, 20, ids, impl.MaxBudget), impl.PlanOut{Verdict: impl.Unknown, Steps: impl.MaxBudget})
	wantFound(t, "with the last one's channel", impl.PlanFind(table, 21, ids, 6), impl.PlanOut{Verdict: impl.Yes, Plan: placesOf(1, 2, 2, 2, 3, 2, 4, 2, 5, 2, 6, 21), Steps: 6})

	crowd := impl.Table{Stations: stationsOf(9), Pairs: pairsOf(9, 36)}
	for i := range crowd.Stations {
		crowd.Stations[i].Domain = channels(2, 8)
	}
	wantFound(t, "nine in eight channels", impl.PlanFind(crowd, 51, idsByHand(crowd), impl.MaxBudget), impl.PlanOut{Verdict: impl.Unknown, Steps: impl.MaxBudget})
	wantFound(t, "and one step too many", impl.PlanFind(crowd, 51, idsByHand(crowd), impl.MaxBudget+1), impl.PlanOut{Code: impl.ErrForm})
}

func TestPlanFindByHand(t *testing.T) {
	t.Parallel()
	random := rand.New(rand.NewSource(55))
	counts := map[int64]int{}
	for i := range 4000 {
		table := crowdedTable(random, impl.MaxStations)
		if i%4 == 0 {
			table = randomTable(random)
		}
		top := int64(random.Intn(10))
		if i%4 == 0 {
			top = random.Int63n(60)
		}
		ids := someOf(random, idsByHand(table))
		for _, budget := range []int64{0, 1, int64(random.Intn(20)), int64(random.Intn(300)), impl.MaxBudget} {
			want := findByHand(table, top, ids, budget)
			counts[want.Verdict]++
			wantFound(t, fmt.Sprint(table, " up to ", top, " of ", ids, " in ", budget), impl.PlanFind(table, top, ids, budget), want)
		}
	}
	if counts[impl.Yes] < 1000 || counts[impl.No] < 1000 || counts[impl.Unknown] < 1000 {
		t.Errorf("the answers are all of one kind: %v", counts)
	}
}

// Promise 10.
func TestFoundPlanIsRightAndTheSameWithMoreSteps(t *testing.T) {
	random := rand.New(rand.NewSource(10))
	found, none := 0, 0
	for range 1500 {
		table := crowdedTable(random, 6)
		top := int64(2 + random.Intn(7))
		ids := someOf(random, idsByHand(table))
		what := fmt.Sprint(table, " up to ", top, " of ", ids)
		first, ok := firstByHand(table, top, ids)
		whole := impl.PlanFind(table, top, ids, impl.MaxBudget)
		if whole.Verdict == impl.Unknown {
			continue
		}
		if ok != (whole.Verdict == impl.Yes) {
			t.Errorf("%s: the verdict is %d", what, whole.Verdict)
		}
		wantPlaces(t, what, whole.Plan, first)
		if ok {
			found++
			wantPlanFault(t, what, table, top, whole.Plan, 0)
			wantNumbers(t, what, impl.PlanIds(whole.Plan), ids)
		} else {
			none++
		}
		for _, budget := range []int64{0, whole.Steps - 1, whole.Steps, whole.Steps + 1, 2 * whole.Steps, impl.MaxBudget - 1} {
			if budget >= 0 && budget < whole.Steps {
				wantFound(t, what, impl.PlanFind(table, top, ids, budget), impl.PlanOut{Verdict: impl.Unknown, Steps: budget})
			} else if budget >= 0 && budget <= impl.MaxBudget {
				wantFound(t, what, impl.PlanFind(table, top, ids, budget), whole)
			}
		}
	}
	if found < 300 || none < 300 {
		t.Errorf("%d found, %d not", found, none)
	}
}

func TestPlansThatAreTooLong(t *testing.T) {
	table := fourStations()
	plan, ids := []impl.Place(nil), []int64(nil)
	for range impl.MaxList {
		plan, ids = append(plan, impl.Place{Id: 3, Channel: 4}), append(ids, 3)
	}
	wantPlanFault(t, "just MaxList", table, 51, plan, -1)
	wantFound(t, "just MaxList", impl.PlanFind(table, 51, ids, 100), impl.PlanOut{Code: impl.ErrForm})
	wantPlaces(t, "just MaxList", impl.PlanAdd(table, 51, plan, 8), nil)
	plan, ids = append(plan, impl.Place{Id: 8, Channel: 3}), append(ids, 8)
	for what, table := range map[string]impl.Table{"a right table": table, "no table": {}} {
		if impl.PlanRight(table, 51, plan) || impl.IdsRight(table, ids) {
			t.Errorf("%s: one more than MaxList is right", what)
		}
		// The zero answer of what is too long, ahead of the -1 of Ids that are not right.
		if got := impl.PlanFault(table, 51, plan); got != 0 {
			t.Errorf("%s: the fault of one more than MaxList is told as %d", what, got)
		}
		wantPlaces(t, what, impl.PlanAdd(table, 51, plan, 20), nil)
		for _, budget := range []int64{-1, 0, 100, impl.MaxBudget + 1} {
			wantFound(t, what, impl.PlanFind(table, 51, ids, budget), impl.PlanOut{Code: impl.ErrSize})
		}
	}
}

// roomyPlan: the same plan, with room behind it, in which a wrong append would be seen.
func roomyPlan(plan []impl.Place) []impl.Place {
	return append(make([]impl.Place, 0, len(plan)+4), plan...)
}

// roomyIds: the same for Ids.
func roomyIds(ids []int64) []int64 {
	return append(make([]int64, 0, len(ids)+4), ids...)
}

// spoilPlaces turns all that a plan holds, and the room behind it.
func spoilPlaces(plan []impl.Place) {
	plan = plan[:cap(plan)]
	for i := range plan {
		plan[i] = impl.Place{Id: -77, Channel: -77}
	}
}

func TestPlansAreNotChangedNorShared(t *testing.T) {
	random := rand.New(rand.NewSource(500))
	for range 400 {
		table := spacious(crowdedTable(random, 7))
		tableBefore := beyond(table)
		top := int64(2 + random.Intn(7))
		ids := roomyIds(someOf(random, idsByHand(table)))
		idsBefore := slices.Clone(ids[:cap(ids)])
		plan := roomyPlan(impl.PlanFind(table, top, ids, impl.MaxBudget).Plan)
		planBefore := slices.Clone(plan[:cap(plan)])
		what := fmt.Sprint(table, " up to ", top, " with ", plan)
		asked := func() bool {
			return tablesAlike(beyond(table), tableBefore) && slices.Equal(ids[:cap(ids)], idsBefore) && slices.Equal(plan[:cap(plan)], planBefore)
		}
		impl.PlanRight(table, top, plan)
		impl.PlanFault(table, top, plan)
		impl.IdsRight(table, ids)
		found := impl.PlanFind(table, top, ids, impl.MaxBudget)
		again := impl.PlanFind(table, top, ids, impl.MaxBudget)
		spoilPlaces(found.Plan)
		wantFound(t, what, again, findByHand(table, top, ids, impl.MaxBudget))
		spoilNumbers(impl.PlanIds(plan))
		for _, s := range table.Stations {
			spoilPlaces(impl.PlanAdd(table, top, plan, s.Id))
			spoilPlaces(impl.PlanAdd(table, top, plan[:0], s.Id))
		}
		if !asked() {
			t.Errorf("%s: what was handed in is changed, or an answer shares its memory", what)
		}
	}
}
