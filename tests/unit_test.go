package tests

import (
	"fmt"
	"math"
	"math/rand"
	"slices"
	"testing"

	"loop.example/g00144/impl"
)

// valueByHand: what LitValue is to tell of a literal.
func valueByHand(trail []int64, literal int64) int64 {
	value := int64(0)
	for _, x := range trail {
		if x == literal {
			return 1
		}
		if x == -literal {
			value = -1
		}
	}
	return value
}

// apartByHand: literals of so many variables, no two of one.
func apartByHand(vars int64, list []int64) bool {
	seen := map[int64]int{}
	for _, x := range list {
		if x == 0 || x < -vars || x > vars {
			return false
		}
		seen[x*x]++
		if seen[x*x] > 1 {
			return false
		}
	}
	return true
}

// openByHand: the literals of a clause that have no value; true, if one of the others is true.
func openByHand(trail []int64, clause []int64) ([]int64, bool) {
	open := []int64(nil)
	isTrue := false
	for _, x := range clause {
		switch valueByHand(trail, x) {
		case 1:
			isTrue = true
		case 0:
			open = append(open, x)
		}
	}
	return open, isTrue
}

// falseByHand: is each literal false?
func falseByHand(trail []int64, clause []int64) bool {
	open, isTrue := openByHand(trail, clause)
	return len(open) == 0 && !isTrue
}

// unitByHand: the literal of a unit, 0 of another clause.
func unitByHand(trail []int64, clause []int64) int64 {
	open, isTrue := openByHand(trail, clause)
	if len(open) != 1 || isTrue {
		return 0
	}
	return open[0]
}

// unitRunByHand: what UnitRun is to tell.
func unitRunByHand(c impl.Cnf, more [][]int64, trail []int64) impl.UnitOut {
	if len(more) > impl.MaxList || len(trail) > impl.MaxList {
		return impl.UnitOut{Code: impl.ErrSize}
	}
	if !cnfRightByHand(c) || !apartByHand(c.Vars, trail) {
		return impl.UnitOut{Code: impl.ErrForm}
	}
	for _, clause := range more {
		if !apartByHand(c.Vars, clause) {
			return impl.UnitOut{Code: impl.ErrForm}
		}
	}
	clauses := slices.Concat(c.Clauses, more)
	trail = slices.Clone(trail)
	for at := 0; at < len(clauses); at++ {
		if falseByHand(trail, clauses[at]) {
			return impl.UnitOut{Trail: trail, Conflict: int64(at)}
		}
		if x := unitByHand(trail, clauses[at]); x != 0 {
			trail = append(trail, x)
			at = -1
		}
	}
	return impl.UnitOut{Trail: trail, Conflict: -1}
}

// wantUnit: an empty list and none are the same.
func wantUnit(t *testing.T, what string, got impl.UnitOut, want impl.UnitOut) {
	t.Helper()
	if got.Code != want.Code || got.Conflict != want.Conflict || !slices.Equal(got.Trail, want.Trail) {
		t.Errorf("%.400s: got %+v, want %+v", what, got, want)
	}
}

func followed(conflict int64, trail ...int64) impl.UnitOut {
	return impl.UnitOut{Trail: trail, Conflict: conflict}
}

// minus: each literal turned round.
func minus(list []int64) []int64 {
	turned := []int64(nil)
	for _, x := range list {
		turned = append(turned, -x)
	}
	return turned
}

// chain: if one variable is true, the next one is; told from the first on, or from the last.
func chain(vars int64, backward bool) [][]int64 {
	clauses := [][]int64(nil)
	for v := int64(1); v < vars; v++ {
		clauses = append(clauses, []int64{-v, v + 1})
	}
	if backward {
		slices.Reverse(clauses)
	}
	return clauses
}

// fewLiterals: literals of variables of their own, up to so many.
func fewLiterals(random *rand.Rand, vars int64, most int) []int64 {
	list := []int64(nil)
	for _, v := range random.Perm(int(vars))[:random.Intn(1+min(int(vars), most))] {
		list = append(list, int64(v+1)*(2*random.Int63n(2)-1))
	}
	return list
}

// unitCase: right things from which something may well follow.
func unitCase(random *rand.Rand, vars int64) (impl.Cnf, [][]int64, []int64) {
	c := impl.Cnf{Vars: vars}
	wide := 2 + random.Intn(3)
	for range random.Intn(4 + 2*int(vars)) {
		c.Clauses = append(c.Clauses, fewLiterals(random, vars, wide))
	}
	// A clause of no literal would end most runs at once.
	if random.Intn(4) > 0 {
		c.Clauses = slices.DeleteFunc(c.Clauses, func(clause []int64) bool { return len(clause) == 0 })
	}
	more := [][]int64(nil)
	for range random.Intn(5) {
		more = append(more, fewLiterals(random, vars, wide+2))
	}
	return c, more, fewLiterals(random, vars, random.Intn(4))
}

func TestUnitRunAtItsEdges(t *testing.T) {
	for _, c := range []struct {
		what    string
		vars    int64
		clauses [][]int64
		more    [][]int64
		trail   []int64
		want    impl.UnitOut
	}{
		{"nothing at all", 0, nil, nil, nil, followed(-1)},
		{"empty lists", 0, [][]int64{}, [][]int64{}, []int64{}, followed(-1)},
		{"no variable, a clause of no literal", 0, [][]int64{{}}, nil, nil, followed(0)},
		{"no variable, two of no literal", 0, [][]int64{{}, nil}, nil, nil, followed(0)},
		{"no variable, a list of no literal in more", 0, nil, [][]int64{{}}, nil, followed(0)},
		{"no clause", 5, nil, nil, nil, followed(-1)},
		{"no clause, a trail", 5, nil, nil, []int64{3, -1}, followed(-1, 3, -1)},
		{"no clause, a unit in more", 5, nil, [][]int64{{-4}}, nil, followed(-1, -4)},
		{"no clause, a list of no literal in more", 5, nil, [][]int64{{}}, []int64{2}, followed(0, 2)},
		{"one unit", 1, [][]int64{{1}}, nil, nil, followed(-1, 1)},
		{"one unit of minus one", 1, [][]int64{{-1}}, nil, nil, followed(-1, -1)},
		{"a unit that is true already", 1, [][]int64{{1}}, nil, []int64{1}, followed(-1, 1)},
		{"a unit that is false", 1, [][]int64{{1}}, nil, []int64{-1}, followed(0, -1)},
		{"one against the other", 1, [][]int64{{1}, {-1}}, nil, nil, followed(1, 1)},
		{"the other against the one", 1, [][]int64{{-1}, {1}}, nil, nil, followed(1, -1)},
		{"two open ones", 2, [][]int64{{1, 2}}, nil, nil, followed(-1)},
		{"one of two is left", 2, [][]int64{{1, 2}}, nil, []int64{-1}, followed(-1, -1, 2)},
		{"the other of two is left", 2, [][]int64{{1, 2}}, nil, []int64{-2}, followed(-1, -2, 1)},
		{"none of two is left", 2, [][]int64{{1, 2}}, nil, []int64{-2, -1}, followed(0, -2, -1)},
		{"a true one and an open one", 2, [][]int64{{1, 2}}, nil, []int64{1}, followed(-1, 1)},
		{"an open one and a true one", 2, [][]int64{{1, 2}}, nil, []int64{2}, followed(-1, 2)},
		{"a true one and a false one", 2, [][]int64{{1, 2}}, nil, []int64{-1, 2}, followed(-1, -1, 2)},
		{"a true one behind false ones", 4, [][]int64{{1, 2, -3, 4}}, nil, []int64{-1, -2, -3}, followed(-1, -1, -2, -3)},
		{"a true one, false ones, an open one", 4, [][]int64{{4, 1, 2, 3}}, nil, []int64{4, -1, -2}, followed(-1, 4, -1, -2)},
		{"an open one, false ones, a true one", 4, [][]int64{{3, 1, 2, 4}}, nil, []int64{4, -1, -2}, followed(-1, 4, -1, -2)},
		{"two open ones, one false", 3, [][]int64{{1, 2, 3}}, nil, []int64{-2}, followed(-1, -2)},
		{"a clause of no literal ahead of a unit", 2, [][]int64{{}, {1}}, nil, nil, followed(0)},
		{"a clause of no literal behind a unit", 2, [][]int64{{1}, {}}, nil, nil, followed(1, 1)},
		{"a clause of no literal behind two units", 2, [][]int64{{1}, {2}, {}}, nil, nil, followed(2, 1, 2)},
		{"a clause of no literal between units", 2, [][]int64{{1}, {}, {2}}, nil, nil, followed(1, 1)},
		{"a false one ahead of a unit", 2, [][]int64{{-1}, {2}}, nil, []int64{1}, followed(0, 1)},
		{"a false one behind a unit", 2, [][]int64{{2}, {-1}}, nil, []int64{1}, followed(1, 1, 2)},
		{"a unit that makes the one behind it false", 2, [][]int64{{-1, -2}, {2}}, nil, []int64{1}, followed(1, 1, -2)},
		{"a unit that makes one ahead of it a unit, and that a false one", 3, [][]int64{{-2, -3}, {2}, {3}}, nil, nil, followed(2, 2, -3)},
		{"two false ones", 2, [][]int64{{1, 2}, {-1}, {2}}, nil, []int64{1, -2}, followed(1, 1, -2)},
		{"a false one of c and one of more", 2, [][]int64{{2}, {-1}}, [][]int64{{-1}}, []int64{1}, followed(1, 1, 2)},
		{"a false one of more alone", 2, [][]int64{{2}, {1}}, [][]int64{{1}, {-1}}, []int64{1}, followed(3, 1, 2)},
		{"a unit of c ahead of a false one of more", 2, [][]int64{{2}}, [][]int64{{-1}}, []int64{1}, followed(1, 1, 2)},
		{"a false one of c ahead of a unit of more", 2, [][]int64{{-1}}, [][]int64{{2}}, []int64{1}, followed(0, 1)},
		{"by a unit of more one of c becomes a unit", 3, [][]int64{{-3, 2}}, [][]int64{{3}, {1}}, nil, followed(-1, 3, 2, 1)},
		{"by a unit of c one of more becomes false", 3, [][]int64{{-3, 2}}, [][]int64{{3}, {1}}, []int64{-2}, followed(1, -2, -3)},
		{"by a unit of more one of c becomes a unit, and one of more false", 3, [][]int64{{-3, 2}, {1, -2, 3}}, [][]int64{{3}, {1}, {-2}}, nil, followed(4, 3, 2, 1)},
		{"units of more alone", 3, nil, [][]int64{{3}, {-1}, {-2, 1}}, nil, followed(-1, 3, -1, -2)},
		{"units of more ahead of each other", 3, nil, [][]int64{{-2, 1}, {-1, 3}, {2}}, nil, followed(-1, 2, 1, 3)},
		{"the same unit in two clauses", 2, [][]int64{{2}, {2}}, nil, nil, followed(-1, 2)},
		{"the same unit in c and more", 2, [][]int64{{-2}}, [][]int64{{-2}, {-2}}, nil, followed(-1, -2)},
		{"the same unit in unlike clauses", 3, [][]int64{{1, 3}, {2, 3}}, nil, []int64{-1, -2}, followed(-1, -1, -2, 3)},
		{"units as they stand, not as they rise", 4, [][]int64{{4}, {-2}, {3}, {-1}}, nil, nil, followed(-1, 4, -2, 3, -1)},
		{"the first one again behind each", 4, [][]int64{{-4, 1}, {-3, 4}, {3}, {2}}, nil, nil, followed(-1, 3, 4, 1, 2)},
		{"a trail of all variables", 3, [][]int64{{1, 2}, {-3, 2}}, nil, []int64{-3, 1, -2}, followed(-1, -3, 1, -2)},
		{"a trail of all variables, one false", 3, [][]int64{{1, 2}, {3, 2}}, nil, []int64{-3, 1, -2}, followed(1, -3, 1, -2)},
		{"a trail that falls", 3, [][]int64{{-3, 1}}, nil, []int64{3, 2}, followed(-1, 3, 2, 1)},
	} {
		cnf := impl.Cnf{Vars: c.vars, Clauses: c.clauses}
		wantUnit(t, c.what, impl.UnitRun(cnf, c.more, c.trail), c.want)
		wantUnit(t, c.what+" by hand", unitRunByHand(cnf, c.more, c.trail), c.want)
	}
}

func TestUnitRunAtItsLimits(t *testing.T) {
	for _, backward := range []bool{false, true} {
		c := impl.Cnf{Vars: impl.MaxVars, Clauses: chain(impl.MaxVars, backward)}
		what := fmt.Sprint("a chain, backward: ", backward)
		wantUnit(t, what, impl.UnitRun(c, nil, nil), followed(-1))
		wantUnit(t, what+", from its first one", impl.UnitRun(c, nil, []int64{1}), followed(-1, countUp(1, impl.MaxVars)...))
		wantUnit(t, what+", from its first one in more", impl.UnitRun(c, [][]int64{{1}}, nil), followed(-1, countUp(1, impl.MaxVars)...))
		wantUnit(t, what+", from the minus of its last one", impl.UnitRun(c, nil, []int64{-impl.MaxVars}), followed(-1, minus(reversed(countUp(1, impl.MaxVars)))...))
		wantUnit(t, what+", from its middle", impl.UnitRun(c, nil, []int64{50}), followed(-1, countUp(50, impl.MaxVars)...))
		wantUnit(t, what+" in more", impl.UnitRun(impl.Cnf{Vars: impl.MaxVars, Clauses: [][]int64{{1}}}, c.Clauses, nil), followed(-1, countUp(1, impl.MaxVars)...))
		both := impl.UnitRun(c, nil, []int64{1, -impl.MaxVars})
		wantUnit(t, what+", from both ends", both, unitRunByHand(c, nil, []int64{1, -impl.MaxVars}))
		if both.Conflict < 0 {
			t.Errorf("%s, from both ends: no clause is false", what)
		}
	}
	all := impl.Cnf{Vars: impl.MaxVars, Clauses: [][]int64{{96, -95}, {1}}}
	wantUnit(t, "MaxVars, a trail of all", impl.UnitRun(all, nil, countUp(1, impl.MaxVars)), followed(-1, countUp(1, impl.MaxVars)...))
	wantUnit(t, "MaxVars, a trail of all, minus", impl.UnitRun(all, nil, countUp(-impl.MaxVars, -1)), followed(1, countUp(-impl.MaxVars, -1)...))
	wantUnit(t, "MaxVars, a trail of all but one", impl.UnitRun(all, nil, countUp(2, impl.MaxVars)), followed(-1, append(countUp(2, impl.MaxVars), 1)...))
	wide := impl.Cnf{Vars: impl.MaxVars, Clauses: [][]int64{countUp(81, 96), countUp(-16, -1)}}
	wantUnit(t, "MaxWide, one is left", impl.UnitRun(wide, nil, countUp(-96, -82)), followed(-1, append(countUp(-96, -82), 81)...))
	wantUnit(t, "MaxWide, none is left", impl.UnitRun(wide, nil, countUp(1, 16)), followed(1, countUp(1, 16)...))
	many := impl.Cnf{Vars: 2, Clauses: append(clausesOf(impl.MaxClauses-1, -2), []int64{1})}
	wantUnit(t, "MaxClauses", impl.UnitRun(many, nil, nil), followed(-1, -2, 1))
	wantUnit(t, "MaxClauses, the last one false", impl.UnitRun(many, nil, []int64{-1}), followed(impl.MaxClauses-1, -1, -2))
	wantUnit(t, "MaxClauses and one of more", impl.UnitRun(many, [][]int64{{-1}}, nil), followed(impl.MaxClauses, -2, 1))
	wantUnit(t, "MaxClauses and the last of MaxList", impl.UnitRun(many, append(repeated(impl.MaxList-1, -2), nil), nil), followed(impl.MaxClauses+impl.MaxList-1, -2, 1))
}

// reversed: from the last one on.
func reversed(list []int64) []int64 {
	list = slices.Clone(list)
	slices.Reverse(list)
	return list
}

func TestUnitRunOfMore(t *testing.T) {
	c := impl.Cnf{Vars: impl.MaxVars, Clauses: [][]int64{{1, 2}}}
	for _, lists := range [][][]int64{nil, {}} {
		wantUnit(t, "no list", impl.UnitRun(c, lists, []int64{-2}), followed(-1, -2, 1))
	}
	wantUnit(t, "a list of no literal", impl.UnitRun(c, [][]int64{{}}, nil), followed(1))
	wantUnit(t, "a list of no literal, behind a unit", impl.UnitRun(c, [][]int64{{}}, []int64{-2}), followed(1, -2, 1))
	// More than MaxWide may stand in such a list, but in no clause of c.
	for _, size := range []int64{17, 95, 96} {
		list := countUp(-size, -1)
		what := fmt.Sprint("a list of ", size)
		wantUnit(t, what, impl.UnitRun(c, [][]int64{list}, nil), followed(-1))
		wantUnit(t, what+", one is left", impl.UnitRun(c, [][]int64{list}, countUp(2, size)), followed(-1, append(countUp(2, size), -1)...))
		wantUnit(t, what+", none is left", impl.UnitRun(c, [][]int64{list}, countUp(1, size)), followed(1, countUp(1, size)...))
		wantUnit(t, what+" in c", impl.UnitRun(impl.Cnf{Vars: impl.MaxVars, Clauses: [][]int64{list}}, nil, nil), impl.UnitOut{Code: impl.ErrForm})
	}
	for _, last := range []int64{1, -1, 96, -96, 97, -97} {
		list := append(countUp(1, impl.MaxVars), last)
		wantUnit(t, fmt.Sprint("a list of one more than MaxVars, of ", last), impl.UnitRun(c, [][]int64{list}, nil), impl.UnitOut{Code: impl.ErrForm})
	}
	for _, literal := range []int64{1, -5} {
		wantUnit(t, "MaxList lists", impl.UnitRun(c, repeated(impl.MaxList, literal), nil), followed(-1, literal))
		wantUnit(t, "one more than MaxList", impl.UnitRun(c, repeated(impl.MaxList+1, literal), nil), impl.UnitOut{Code: impl.ErrSize})
	}
	wantUnit(t, "MaxList lists of no literal", impl.UnitRun(c, make([][]int64, impl.MaxList), nil), followed(1))
	wantUnit(t, "the last one of MaxList", impl.UnitRun(c, append(repeated(impl.MaxList-1, 7, 8), []int64{-3}), []int64{3}), followed(impl.MaxList, 3))
}

func TestUnitRunThatIsTooLong(t *testing.T) {
	long := make([]int64, impl.MaxList+1)
	for what, c := range map[string]impl.Cnf{"right": {Vars: 3, Clauses: [][]int64{{1}}}, "not right": {Vars: -1}, "nothing": {}, "false at once": {Clauses: [][]int64{{}}}} {
		for _, more := range [][][]int64{make([][]int64, impl.MaxList+1), repeated(impl.MaxList+1, 1), repeated(impl.MaxList+1, 0), make([][]int64, 9000)} {
			for _, trail := range [][]int64{nil, {1}, {0}, {1, -1}, long} {
				wantUnit(t, what+", long lists", impl.UnitRun(c, more, trail), impl.UnitOut{Code: impl.ErrSize})
			}
		}
		for _, trail := range [][]int64{long, countUp(1, impl.MaxList+1), make([]int64, 9000)} {
			for _, more := range [][][]int64{nil, {{1}}, {{0}}, {{}}} {
				wantUnit(t, what+", a long trail", impl.UnitRun(c, more, trail), impl.UnitOut{Code: impl.ErrSize})
			}
			if impl.TrailRight(c, trail) {
				t.Errorf("%s: a trail of %d is right", what, len(trail))
			}
		}
		// A list within the list is not handed in as such, and MaxList are not too many.
		wantUnit(t, what+", a long list within", impl.UnitRun(c, [][]int64{long}, nil), impl.UnitOut{Code: impl.ErrForm})
		wantUnit(t, what+", a trail of MaxList", impl.UnitRun(c, nil, countUp(1, impl.MaxList)), impl.UnitOut{Code: impl.ErrForm})
		if impl.TrailRight(c, countUp(1, impl.MaxList)) {
			t.Errorf("%s: a trail of MaxList is right", what)
		}
	}
}

func TestUnitRunOfWrongClauses(t *testing.T) {
	for what, c := range wrongCnfs() {
		for _, trail := range [][]int64{nil, {}, {1}, {-1}, {0}, {1, 1}} {
			for _, more := range [][][]int64{nil, {}, {{}}, {{1}}, {{0}}} {
				wantUnit(t, what, impl.UnitRun(c, more, trail), impl.UnitOut{Code: impl.ErrForm})
			}
			if impl.TrailRight(c, trail) {
				t.Errorf("%s: the trail %v is right", what, trail)
			}
		}
	}
	for what, c := range rightCnfs() {
		wantUnit(t, what, impl.UnitRun(c, nil, nil), unitRunByHand(c, nil, nil))
		if got := impl.UnitRun(c, nil, nil); got.Code != impl.OK {
			t.Errorf("%s: is refused with %d", what, got.Code)
		}
		if !impl.TrailRight(c, nil) {
			t.Errorf("%s: the empty trail is not right", what)
		}
	}
}

// wrongLiterals: lists that are neither in more nor a trail of five variables.
func wrongLiterals() [][]int64 {
	return [][]int64{
		{0}, {0, 1}, {1, 0}, {1, 0, 2}, {0, 0}, {6}, {-6}, {1, 6}, {-6, 1}, {5, -6}, {97}, {-97}, {96}, {-96},
		{2, 2}, {-2, -2}, {2, -2}, {-2, 2}, {2, 1, 2}, {-2, 1, -2}, {2, 1, -2}, {-2, 1, 2}, {1, 2, 3, 4, 5, 1}, {1, 2, 3, 4, 5, -5}, {5, 4, 3, 2, 1, 5},
		{math.MinInt64}, {-math.MaxInt64}, {math.MaxInt64}, {1, math.MinInt64}, {math.MinInt64, math.MinInt64}, {math.MinInt64, 1}, {4294967297}, {-4294967295}, {257}, {-255},
		countUp(1, 6), countUp(-6, -1), countUp(-5, 5), countUp(1, 97),
	}
}

func TestUnitRunOfWrongLists(t *testing.T) {
	refused := impl.UnitOut{Code: impl.ErrForm}
	for _, clauses := range [][][]int64{nil, {{1, 2}}, {{}}, {{1}, {-1}}} {
		c := impl.Cnf{Vars: 5, Clauses: clauses}
		for _, wrong := range wrongLiterals() {
			what := fmt.Sprint(wrong)
			wantUnit(t, "the trail "+what, impl.UnitRun(c, nil, wrong), refused)
			wantUnit(t, "the trail "+what+" and lists", impl.UnitRun(c, [][]int64{{1, -5}, {}}, wrong), refused)
			wantUnit(t, "the list "+what, impl.UnitRun(c, [][]int64{wrong}, nil), refused)
			wantUnit(t, "the list "+what+", a trail", impl.UnitRun(c, [][]int64{wrong}, []int64{-1, 2}), refused)
			wantUnit(t, "the list "+what+" ahead", impl.UnitRun(c, [][]int64{wrong, {1}}, nil), refused)
			wantUnit(t, "the list "+what+" behind", impl.UnitRun(c, [][]int64{{}, {1}, wrong}, nil), refused)
			wantUnit(t, "the last list "+what, impl.UnitRun(c, append(make([][]int64, impl.MaxList-1), wrong), nil), refused)
			wantUnit(t, "both "+what, impl.UnitRun(c, [][]int64{wrong}, wrong), refused)
			if impl.TrailRight(c, wrong) {
				t.Errorf("%v: is right", wrong)
			}
		}
	}
	for _, literal := range []int64{1, -1, 0} {
		wantUnit(t, "a literal, no variable", impl.UnitRun(impl.Cnf{}, [][]int64{{literal}}, nil), refused)
		wantUnit(t, "a trail, no variable", impl.UnitRun(impl.Cnf{}, nil, []int64{literal}), refused)
	}
	// The same variable may stand in two lists, and in a list and the trail.
	c := impl.Cnf{Vars: 5, Clauses: [][]int64{{2, 3}}}
	wantUnit(t, "a variable here and there", impl.UnitRun(c, [][]int64{{2, -3}, {2, 1}, {2, 3}}, []int64{-2, 1}), followed(1, -2, 1, 3))
}

func TestTrailRight(t *testing.T) {
	for vars := int64(0); vars <= impl.MaxVars; vars++ {
		c := impl.Cnf{Vars: vars}
		for _, literal := range []int64{vars - 1, vars, vars + 1, 1 - vars, -vars, -vars - 1, 0, 1, -1, 2, -2} {
			for _, trail := range [][]int64{{literal}, {literal, 1}, {-1, literal}, {literal, literal}, {literal, -literal}} {
				want := apartByHand(vars, trail)
				if got := impl.TrailRight(c, trail); got != want {
					t.Errorf("%v of %d variables: right is told as %v", trail, vars, got)
				}
				if got := impl.UnitRun(c, nil, trail); (got.Code == impl.OK) != want {
					t.Errorf("%v of %d variables: the code is %d", trail, vars, got.Code)
				}
			}
		}
		for what, trail := range map[string][]int64{"none": nil, "an empty one": {}, "all": countUp(1, vars), "all, minus": countUp(-vars, -1), "all, falling": reversed(countUp(1, vars))} {
			if !impl.TrailRight(c, trail) {
				t.Errorf("%s of %d variables: is not right", what, vars)
			}
			wantUnit(t, what, impl.UnitRun(c, nil, trail), followed(-1, trail...))
		}
		if impl.TrailRight(c, countUp(1, vars+1)) || impl.TrailRight(c, countUp(-vars-1, -1)) {
			t.Errorf("one more than all of %d variables is right", vars)
		}
	}
	// What its clauses say is no matter of the trail.
	c := impl.Cnf{Vars: 3, Clauses: [][]int64{{}, {1}, {-2, 3}}}
	for _, trail := range [][]int64{nil, {-1}, {2, -3}, {-3, 2, -1}} {
		if !impl.TrailRight(c, trail) {
			t.Errorf("%v: is not right", trail)
		}
	}
}

func TestLitValue(t *testing.T) {
	for _, c := range []struct {
		trail []int64
		lit   int64
		want  int64
	}{
		{nil, 1, 0},
		{nil, -1, 0},
		{nil, 0, 0},
		{[]int64{}, 5, 0},
		{[]int64{1}, 1, 1},
		{[]int64{1}, -1, -1},
		{[]int64{-1}, 1, -1},
		{[]int64{-1}, -1, 1},
		{[]int64{1}, 2, 0},
		{[]int64{1}, -2, 0},
		{[]int64{1}, 0, 0},
		{[]int64{1, -2, 3}, 3, 1},
		{[]int64{1, -2, 3}, 2, -1},
		{[]int64{1, -2, 3}, -2, 1},
		{[]int64{1, -2, 3}, -3, -1},
		{[]int64{1, -2, 3}, 4, 0},
		{[]int64{12}, 1, 0},
		{[]int64{-12}, 2, 0},
		{[]int64{96}, 96, 1},
		{[]int64{96}, -96, -1},
		{[]int64{96}, 97, 0},
		{[]int64{1}, 4294967297, 0},
		{[]int64{1}, -4294967295, 0},
		{[]int64{1}, 257, 0},
		{countUp(1, impl.MaxVars), impl.MaxVars, 1},
		{countUp(1, impl.MaxVars), -impl.MaxVars, -1},
		{countUp(-impl.MaxVars, -1), 50, -1},
		{[]int64{1}, math.MinInt64, 0},
		{[]int64{1}, math.MaxInt64, 0},
		{[]int64{1}, -math.MaxInt64, 0},
	} {
		if got := impl.LitValue(c.trail, c.lit); got != c.want {
			t.Errorf("%d in %v: got %d, want %d", c.lit, c.trail, got, c.want)
		}
	}
}

// What is no trail of any Cnf is asked as the words say: first for the literal, then for its minus.
func TestLitValueOfWhatIsNoTrail(t *testing.T) {
	for _, c := range []struct {
		trail []int64
		lit   int64
		want  int64
	}{
		{[]int64{1, -1}, 1, 1},
		{[]int64{1, -1}, -1, 1},
		{[]int64{-1, 1}, 1, 1},
		{[]int64{-1, 1}, -1, 1},
		{[]int64{2, 2}, 2, 1},
		{[]int64{2, 2}, -2, -1},
		{[]int64{0}, 0, 1},
		{[]int64{0}, 1, 0},
		{[]int64{1000}, -1000, -1},
		{[]int64{math.MinInt64}, math.MinInt64, 1},
		{[]int64{math.MaxInt64}, -math.MaxInt64, -1},
		{[]int64{math.MaxInt64}, math.MinInt64, 0},
		{[]int64{math.MinInt64}, math.MaxInt64, 0},
		{countUp(1, impl.MaxList), impl.MaxList, 1},
		{countUp(1, impl.MaxList), -impl.MaxList, -1},
		{countUp(1, impl.MaxList+1), impl.MaxList, 0},
		{countUp(1, impl.MaxList+1), 1, 0},
		{countUp(1, impl.MaxList+1), -1, 0},
		{make([]int64, impl.MaxList+1), 0, 0},
	} {
		if got := impl.LitValue(c.trail, c.lit); got != c.want {
			t.Errorf("%d in %.60s: got %d, want %d", c.lit, fmt.Sprint(c.trail), got, c.want)
		}
	}
}

// wantPromise13: told without a run by hand.
func wantPromise13(t *testing.T, c impl.Cnf, more [][]int64, trail []int64, got impl.UnitOut) {
	t.Helper()
	what := fmt.Sprint(c, " with ", more, " from ", trail)
	if got.Code != impl.OK {
		t.Fatalf("%.400s: refused with %d", what, got.Code)
	}
	clauses := slices.Concat(c.Clauses, more)
	if got.Conflict < -1 || got.Conflict >= int64(len(clauses)) {
		t.Fatalf("%.400s: the conflict is at %d", what, got.Conflict)
	}
	if got.Conflict >= 0 {
		if !falseByHand(got.Trail, clauses[got.Conflict]) {
			t.Errorf("%.400s: ends with %v at %d, which is not false", what, got.Trail, got.Conflict)
		}
		clauses = clauses[:got.Conflict]
	}
	for i, clause := range clauses {
		if falseByHand(got.Trail, clause) || unitByHand(got.Trail, clause) != 0 {
			t.Errorf("%.400s: ends with %v at %d, but the clause at %d is false or a unit", what, got.Trail, got.Conflict, i)
		}
	}
	if !impl.TrailRight(c, got.Trail) || !slices.Equal(got.Trail[:len(trail)], trail) {
		t.Errorf("%.400s: the trail is %v", what, got.Trail)
	}
	for v := -c.Vars - 1; v <= c.Vars+1; v++ {
		if value := impl.LitValue(got.Trail, v); value != valueByHand(got.Trail, v) {
			t.Errorf("%d in %v: the value is told as %d", v, got.Trail, value)
		}
	}
}

// Promise 13.
func TestWhatFollowsLeavesNoneOrEndsAtAFalseOne(t *testing.T) {
	t.Parallel()
	random := rand.New(rand.NewSource(13))
	none, conflicts, long := 0, 0, 0
	for i := range 6000 {
		vars := random.Int63n(9)
		if i%10 == 0 {
			vars = random.Int63n(impl.MaxVars + 1)
		}
		c, more, trail := unitCase(random, vars)
		got := impl.UnitRun(c, more, trail)
		wantPromise13(t, c, more, trail, got)
		wantUnit(t, fmt.Sprint(c, " with ", more, " from ", trail), got, unitRunByHand(c, more, trail))
		if got.Conflict >= 0 {
			conflicts++
		} else {
			none++
		}
		if len(got.Trail) > len(trail)+2 {
			long++
		}
	}
	if none < 1000 || conflicts < 1000 || long < 500 {
		t.Errorf("%d without a conflict, %d with one, %d with much that follows", none, conflicts, long)
	}
}

// Promise 13, of the clauses of stations, from channels that are given to some of them.
func TestWhatFollowsFromChannels(t *testing.T) {
	random := rand.New(rand.NewSource(1313))
	for i := range 400 {
		table := crowdedTable(random, 2+random.Intn(impl.MaxStations-1))
		ids := someOf(random, idsByHand(table))
		c := impl.CnfOf(table, int64(2+random.Intn(8)), ids)
		trail := fewLiterals(random, c.Vars, 3)
		more := [][]int64(nil)
		if i%2 == 0 {
			more = [][]int64{minus(trail), fewLiterals(random, c.Vars, 2)}
		}
		got := impl.UnitRun(c, more, trail)
		wantPromise13(t, c, more, trail, got)
		wantUnit(t, fmt.Sprint(c), got, unitRunByHand(c, more, trail))
	}
}

// What follows is so in all that makes the clauses and the trail true, and nothing does where one is false in the end.
func TestWhatFollowsIsTrue(t *testing.T) {
	random := rand.New(rand.NewSource(131313))
	for range 1500 {
		c, more, trail := unitCase(random, random.Int63n(7))
		got := impl.UnitRun(c, more, trail)
		given := impl.Cnf{Vars: c.Vars, Clauses: slices.Concat(c.Clauses, more)}
		for _, x := range trail {
			given.Clauses = append(given.Clauses, []int64{x})
		}
		for _, trues := range eachTrues(c.Vars) {
			if clauseFaultByHand(given, trues) != -1 {
				continue
			}
			if got.Conflict >= 0 {
				t.Errorf("%v from %v: ends at %d, but %v make all true", given, trail, got.Conflict, trues)
			}
			for _, x := range got.Trail {
				if slices.Contains(trues, max(x, -x)) != (x > 0) {
					t.Errorf("%v from %v: %d follows, but %v make all true", given, trail, x, trues)
				}
			}
		}
	}
}

func TestUnitRunByHandOfWhatMayBeWrong(t *testing.T) {
	random := rand.New(rand.NewSource(80))
	counts := map[int64]int{}
	for range 20000 {
		c, more, trail := unitCase(random, random.Int63n(6))
		spoilable := [][]int64{trail}
		spoilable = append(spoilable, more...)
		spoilable = append(spoilable, c.Clauses...)
		if list := spoilable[random.Intn(len(spoilable))]; random.Intn(2) == 0 && len(list) > 0 {
			list[random.Intn(len(list))] = random.Int63n(2*c.Vars+3) - c.Vars - 1
		}
		if random.Intn(10) == 0 {
			c.Vars += random.Int63n(3) - 1
		}
		want := unitRunByHand(c, more, trail)
		counts[want.Code]++
		wantUnit(t, fmt.Sprint(c, " with ", more, " from ", trail), impl.UnitRun(c, more, trail), want)
		if got := impl.TrailRight(c, trail); got != (cnfRightByHand(c) && apartByHand(c.Vars, trail)) {
			t.Errorf("%v from %v: right is told as %v", c, trail, got)
		}
	}
	if counts[impl.OK] < 1000 || counts[impl.ErrForm] < 1000 {
		t.Errorf("the codes are %v", counts)
	}
}

// A run that has the most to do: all clauses are gone through for each literal that follows.
func TestUnitRunOfTheMostThereIs(t *testing.T) {
	t.Parallel()
	c := impl.Cnf{Vars: impl.MaxVars, Clauses: repeated(impl.MaxClauses-95, append(countUp(-15, -1), 96)...)}
	c.Clauses = append(c.Clauses, chain(impl.MaxVars, true)...)
	more := append(repeated(impl.MaxList-1, append(countUp(-95, -1), 96)...), []int64{1})
	// The first 15 make the wide clauses units, ahead of the chain.
	want := append(append(countUp(1, 15), 96), countUp(16, 95)...)
	wantUnit(t, "the most there is", impl.UnitRun(c, more, nil), followed(-1, want...))
	wantUnit(t, "the most there is, to a false one", impl.UnitRun(c, more, []int64{-96}), unitRunByHand(c, more, []int64{-96}))
}

func TestUnitRunKeepsNothing(t *testing.T) {
	random := rand.New(rand.NewSource(81))
	c, more, trail := unitCase(random, 8)
	first := impl.UnitRun(c, more, trail)
	for range 300 {
		impl.UnitRun(unitCase(random, random.Int63n(impl.MaxVars+1)))
		impl.UnitRun(impl.Cnf{Vars: 8}, [][]int64{{1, 1}}, []int64{3, -4, 0})
		wantUnit(t, "again", impl.UnitRun(c, more, trail), first)
	}
}

func TestUnitRunChangesAndSharesNothing(t *testing.T) {
	random := rand.New(rand.NewSource(800))
	for i := range 1500 {
		c, more, trail := unitCase(random, random.Int63n(9))
		if i%3 == 0 {
			trail = trail[:0]
		}
		if i%5 == 0 {
			trail = append(trail, 0)
		}
		own := roomyCnf(c)
		lists := roomyCnf(impl.Cnf{Clauses: more})
		roomyTrail := roomyIds(trail)
		clausesBefore, listsBefore, trailBefore := allOfCnf(own), allOfCnf(lists), slices.Clone(roomyTrail[:cap(roomyTrail)])
		got := impl.UnitRun(own, lists.Clauses, roomyTrail)
		other := impl.UnitRun(own, lists.Clauses, roomyTrail)
		want := slices.Clone(got.Trail)
		spoilNumbers(got.Trail)
		wantNumbers(t, "another answer", other.Trail, want)
		impl.TrailRight(own, roomyTrail)
		impl.LitValue(roomyTrail, 1)
		if !slices.EqualFunc(allOfCnf(own), clausesBefore, slices.Equal[[]int64]) || !slices.EqualFunc(allOfCnf(lists), listsBefore, slices.Equal[[]int64]) ||
			!slices.Equal(roomyTrail[:cap(roomyTrail)], trailBefore) || own.Vars != c.Vars {
			t.Errorf("%v with %v from %v: what was handed in is changed, or the answer shares its memory", c, more, trail)
		}
		for _, clause := range append(own.Clauses, lists.Clauses...) {
			spoilNumbers(clause)
		}
		spoilNumbers(roomyTrail)
		wantNumbers(t, "behind a change of what was handed in", other.Trail, want)
	}
}
