package tests

import (
	"fmt"
	"math"
	"math/rand"
	"slices"
	"testing"

	"loop.example/g00144/impl"
)

// searchByHand: what Solve is to tell of a right Cnf, also within more steps than it takes.
func searchByHand(c impl.Cnf, budget int64) impl.SolveOut {
	decisions, lemmas := []int64(nil), [][]int64(nil)
	for steps := int64(1); steps <= budget; steps++ {
		unit := unitRunByHand(c, lemmas, decisions)
		if unit.Conflict >= 0 {
			lemmas = append(lemmas, minus(decisions))
			if len(decisions) == 0 {
				return impl.SolveOut{Verdict: impl.No, Lemmas: lemmas, Steps: steps}
			}
			decisions = slices.Clone(decisions[:len(decisions)-1])
			continue
		}
		open, trues := []int64(nil), []int64(nil)
		for v := int64(1); v <= c.Vars; v++ {
			switch valueByHand(unit.Trail, v) {
			case 0:
				open = append(open, v)
			case 1:
				trues = append(trues, v)
			}
		}
		if len(open) == 0 {
			return impl.SolveOut{Verdict: impl.Yes, Trues: trues, Lemmas: lemmas, Steps: steps}
		}
		decisions = append(slices.Clone(decisions), open[0])
	}
	return impl.SolveOut{Verdict: impl.Unknown, Lemmas: lemmas, Steps: budget}
}

// solveByHand: what Solve is to tell of anything.
func solveByHand(c impl.Cnf, budget int64) impl.SolveOut {
	if !cnfRightByHand(c) || budget < 0 || budget > impl.MaxSolve {
		return impl.SolveOut{Code: impl.ErrForm}
	}
	return searchByHand(c, budget)
}

// countByHand: what SolveCount is to tell beside such an answer of Solve.
func countByHand(out impl.SolveOut) int64 {
	if out.Verdict == impl.Yes || out.Verdict == impl.No {
		return out.Steps
	}
	return -1
}

// sameSolved: an empty list and none are the same.
func sameSolved(got impl.SolveOut, want impl.SolveOut) bool {
	return got.Code == want.Code && got.Verdict == want.Verdict && got.Steps == want.Steps &&
		slices.Equal(got.Trues, want.Trues) && slices.EqualFunc(got.Lemmas, want.Lemmas, slices.Equal[[]int64])
}

// wantSolved asks Solve and SolveCount; a panic that leaves one of them is a fault like others.
func wantSolved(t *testing.T, what string, c impl.Cnf, budget int64, want impl.SolveOut) {
	t.Helper()
	defer func() {
		t.Helper()
		if thrown := recover(); thrown != nil {
			t.Errorf("%.400s within %d: throws %v", what, budget, thrown)
		}
	}()
	if got := impl.Solve(c, budget); !sameSolved(got, want) {
		t.Errorf("%.400s within %d: got %+v, want %+v", what, budget, got, want)
	}
	if got := impl.SolveCount(c, budget); got != countByHand(want) {
		t.Errorf("%.400s within %d: %d steps are counted, want %d", what, budget, got, countByHand(want))
	}
}

func yesIn(steps int64, trues []int64, lemmas ...[]int64) impl.SolveOut {
	return impl.SolveOut{Verdict: impl.Yes, Trues: trues, Lemmas: lemmas, Steps: steps}
}

func noIn(steps int64, lemmas ...[]int64) impl.SolveOut {
	return impl.SolveOut{Verdict: impl.No, Lemmas: lemmas, Steps: steps}
}

func unknownIn(steps int64, lemmas ...[]int64) impl.SolveOut {
	return impl.SolveOut{Verdict: impl.Unknown, Lemmas: lemmas, Steps: steps}
}

// allSigns: each clause that has all of so many variables, so that nothing makes all of them true.
func allSigns(vars int) [][]int64 {
	clauses := [][]int64{nil}
	for v := int64(1); v <= int64(vars); v++ {
		longer := [][]int64(nil)
		for _, clause := range clauses {
			longer = append(longer, append(slices.Clone(clause), v), append(slices.Clone(clause), -v))
		}
		clauses = longer
	}
	return clauses
}

// shifted: the same clauses of variables that are so many further on.
func shifted(clauses [][]int64, by int64) [][]int64 {
	further := [][]int64(nil)
	for _, clause := range clauses {
		list := []int64(nil)
		for _, x := range clause {
			if x > 0 {
				list = append(list, x+by)
			} else {
				list = append(list, x-by)
			}
		}
		further = append(further, list)
	}
	return further
}

// crowdIn: each of some must have a place, of which there is one too few, and no two have the same.
func crowdIn(places int64) impl.Cnf {
	c := impl.Cnf{Vars: places * (places + 1)}
	for i := range places + 1 {
		c.Clauses = append(c.Clauses, countUp(i*places+1, (i+1)*places))
	}
	for place := int64(1); place <= places; place++ {
		for i := range places + 1 {
			for j := range i {
				c.Clauses = append(c.Clauses, []int64{-(j*places + place), -(i*places + place)})
			}
		}
	}
	return c
}

// branches: for each size a variable that can't be true, as then allSigns of the next ones would be; where it is false, these are, too.
// The list has these first variables. To decide one and to take it back needs 2 to the power of its size steps.
func branches(sizes ...int) (impl.Cnf, []int64) {
	c, refuted := impl.Cnf{}, []int64(nil)
	for _, size := range sizes {
		first := c.Vars + 1
		refuted = append(refuted, first)
		for _, clause := range shifted(allSigns(size), first) {
			c.Clauses = append(c.Clauses, append(clause, -first))
		}
		c.Vars += 1 + int64(size)
		for v := first + 1; v <= c.Vars; v++ {
			c.Clauses = append(c.Clauses, []int64{first, -v})
		}
	}
	return c, refuted
}

// noInSteps: false in so many steps, an odd number: one step for each conflict, and one for each decision between two of them.
// A branch has as many conflicts as half of its steps, so that there is one for each power of two in their number.
func noInSteps(steps int64) impl.Cnf {
	sizes := []int(nil)
	for size := 16; size > 0; size-- {
		if (steps+1)/2>>(size-1)&1 == 1 {
			sizes = append(sizes, size)
		}
	}
	c, refuted := branches(sizes...)
	c.Clauses = append(c.Clauses, refuted)
	return c
}

// yesInSteps: true in so many steps, from 257 to 344: behind one branch each variable more is one more decision.
func yesInSteps(steps int64) impl.Cnf {
	c, _ := branches(8)
	c.Vars += steps - 257
	return c
}

// hardCase: clauses of three literals, so many of them that a verdict is seldom near.
func hardCase(random *rand.Rand, vars int) impl.Cnf {
	c := impl.Cnf{Vars: int64(vars)}
	for range 4*vars + random.Intn(vars) {
		clause := []int64(nil)
		for _, v := range random.Perm(vars)[:3] {
			clause = append(clause, int64(v+1)*(2*random.Int63n(2)-1))
		}
		c.Clauses = append(c.Clauses, clause)
	}
	return c
}

// solveCase: right clauses of any kind, with verdicts near and far.
func solveCase(random *rand.Rand, i int) impl.Cnf {
	if i%4 == 0 {
		return hardCase(random, 3+random.Intn(28))
	}
	c, more, _ := unitCase(random, random.Int63n(10))
	c.Clauses = append(c.Clauses, more...)
	return c
}

func TestSolveAtItsEdges(t *testing.T) {
	for _, c := range []struct {
		what    string
		vars    int64
		clauses [][]int64
		want    impl.SolveOut
	}{
		{"nothing at all", 0, nil, yesIn(1, nil)},
		{"no variable, an empty list", 0, [][]int64{}, yesIn(1, nil)},
		{"no variable, a clause of no literal", 0, [][]int64{{}}, noIn(1, nil)},
		{"no variable, two of no literal", 0, [][]int64{nil, {}}, noIn(1, nil)},
		{"one variable, no clause", 1, nil, yesIn(2, []int64{1})},
		{"one variable, a clause of no literal", 1, [][]int64{{}}, noIn(1, nil)},
		{"one variable that is true", 1, [][]int64{{1}}, yesIn(1, []int64{1})},
		{"one variable that is false", 1, [][]int64{{-1}}, yesIn(1, nil)},
		{"one against the other", 1, [][]int64{{1}, {-1}}, noIn(1, nil)},
		{"two variables, no clause", 2, nil, yesIn(3, []int64{1, 2})},
		{"the first one is decided as it is", 2, [][]int64{{1, 2}}, yesIn(3, []int64{1, 2})},
		{"the second one follows from it", 2, [][]int64{{-1, -2}}, yesIn(2, []int64{1})},
		{"the first one follows, the second one is decided", 2, [][]int64{{-1}}, yesIn(2, []int64{2})},
		{"the least one that is open", 4, [][]int64{{-1}, {3}}, yesIn(3, []int64{2, 3, 4})},
		{"the least one that is open behind a decision", 4, [][]int64{{-1, 2}, {-1, -3}}, yesIn(3, []int64{1, 2, 4})},
		{"true at once by units", 3, [][]int64{{1}, {-1, 2}, {-2, -3}}, yesIn(1, []int64{1, 2})},
		{"true at once by units that fall", 5, [][]int64{{5}, {-4}, {-5, 3}, {-2, 4}, {1}}, yesIn(1, []int64{1, 3, 5})},
		{"all false at once", 3, [][]int64{{-3}, {-1}, {3, -2}}, yesIn(1, nil)},
		{"false at once", 3, [][]int64{{1}, {-1, 2}, {-2}}, noIn(1, nil)},
		{"false at once, variables left", 9, [][]int64{{8, 9}, {7}, {-7}}, noIn(1, nil)},
		{"a clause of no literal behind others", 3, [][]int64{{1, 2}, {}, {-3}}, noIn(1, nil)},
		{"a No behind one decision", 2, allSigns(2), noIn(3, []int64{-1}, nil)},
		{"a No behind two decisions", 3, allSigns(3), noIn(7, []int64{-1, -2}, []int64{-1}, []int64{-2}, nil)},
		{"a No behind three decisions", 4, allSigns(4),
			noIn(15, []int64{-1, -2, -3}, []int64{-1, -2}, []int64{-1, -3}, []int64{-1}, []int64{-2, -3}, []int64{-2}, []int64{-3}, nil)},
		{"a Yes behind a lemma of one decision", 2, [][]int64{{-1, 2}, {-1, -2}}, yesIn(4, []int64{2}, []int64{-1})},
		{"a Yes behind a lemma of two", 3, [][]int64{{-1, -2, 3}, {-1, -2, -3}}, yesIn(5, []int64{1, 3}, []int64{-1, -2})},
		{"a Yes behind a lemma of three", 4, [][]int64{{-1, -2, -3, 4}, {-1, -2, -3, -4}}, yesIn(6, []int64{1, 2, 4}, []int64{-1, -2, -3})},
		{"what follows is no decision, in no lemma", 4, [][]int64{{-1, 2}, {-3, 4}, {-3, -4}}, yesIn(5, []int64{1, 2, 4}, []int64{-1, -3})},
		{"a lemma of decisions that did not matter", 4, [][]int64{{-3, 4}, {-3, -4}}, yesIn(6, []int64{1, 2, 4}, []int64{-1, -2, -3})},
		{"what follows without a decision is in no lemma", 5, [][]int64{{2}, {-1, -3, 5}, {-1, -3, -5}}, yesIn(6, []int64{1, 2, 4, 5}, []int64{-1, -3})},
		{"lemmas of a Yes, one behind the other", 3, [][]int64{{-1, -2, 3}, {-1, -2, -3}, {-1, 2, 3}, {-1, 2, -3}},
			yesIn(7, []int64{2, 3}, []int64{-1, -2}, []int64{-1})},
		{"a lemma makes one true that is open", 2, [][]int64{{-2, 1}, {-1, 2}, {-1, -2}}, yesIn(3, nil, []int64{-1})},
		{"a crowd for one place", 2, crowdIn(1).Clauses, noIn(1, nil)},
		{"a crowd for two places", 6, crowdIn(2).Clauses, noIn(3, []int64{-1}, nil)},
	} {
		cnf := impl.Cnf{Vars: c.vars, Clauses: c.clauses}
		wantSolved(t, c.what, cnf, impl.MaxSolve, c.want)
		wantSolved(t, c.what, cnf, c.want.Steps, c.want)
		wantSolved(t, c.what, cnf, c.want.Steps+1, c.want)
		if got := impl.Solve(cnf, c.want.Steps-1); got.Verdict != impl.Unknown || got.Trues != nil || got.Steps != c.want.Steps-1 {
			t.Errorf("%s within one step less: got %+v", c.what, got)
		}
		if !sameSolved(searchByHand(cnf, impl.MaxSolve), c.want) {
			t.Errorf("%s by hand: got %+v, want %+v", c.what, searchByHand(cnf, impl.MaxSolve), c.want)
		}
	}
}

// Each budget up to the verdict: the lemmas that are made by then, in order.
func TestSolveWithinEachBudget(t *testing.T) {
	c := impl.Cnf{Vars: 3, Clauses: allSigns(3)}
	for budget, want := range []impl.SolveOut{
		unknownIn(0),
		unknownIn(1),
		unknownIn(2),
		unknownIn(3, []int64{-1, -2}),
		unknownIn(4, []int64{-1, -2}, []int64{-1}),
		unknownIn(5, []int64{-1, -2}, []int64{-1}),
		unknownIn(6, []int64{-1, -2}, []int64{-1}, []int64{-2}),
		noIn(7, []int64{-1, -2}, []int64{-1}, []int64{-2}, nil),
		noIn(7, []int64{-1, -2}, []int64{-1}, []int64{-2}, nil),
	} {
		wantSolved(t, "a No", c, int64(budget), want)
	}
	c = impl.Cnf{Vars: 3, Clauses: [][]int64{{-1, -2, 3}, {-1, -2, -3}}}
	for budget, want := range []impl.SolveOut{
		unknownIn(0),
		unknownIn(1),
		unknownIn(2),
		unknownIn(3, []int64{-1, -2}),
		unknownIn(4, []int64{-1, -2}),
		yesIn(5, []int64{1, 3}, []int64{-1, -2}),
		yesIn(5, []int64{1, 3}, []int64{-1, -2}),
	} {
		wantSolved(t, "a Yes", c, int64(budget), want)
	}
}

// Budgets at the edges, of clauses that have a verdict in one step and of such that have none in MaxSolve.
func TestSolveOfBudgetsAtTheEdges(t *testing.T) {
	refused := impl.SolveOut{Code: impl.ErrForm}
	far := crowdIn(5)
	for what, c := range map[string]struct {
		c    impl.Cnf
		want impl.SolveOut
	}{
		"nothing":       {impl.Cnf{}, yesIn(1, nil)},
		"a unit":        {impl.Cnf{Vars: 1, Clauses: [][]int64{{1}}}, yesIn(1, []int64{1})},
		"of no literal": {impl.Cnf{Vars: 5, Clauses: [][]int64{{}}}, noIn(1, nil)},
		"far":           {far, searchByHand(far, impl.MaxSolve)},
	} {
		wantSolved(t, what, c.c, 0, unknownIn(0))
		first := c.want
		if what == "far" {
			first = unknownIn(1)
		}
		wantSolved(t, what, c.c, 1, first)
		wantSolved(t, what, c.c, impl.MaxSolve, c.want)
		for _, budget := range []int64{-1, -2, -impl.MaxSolve, impl.MaxSolve + 1, 1000, 4294967296, 4294967297, math.MaxInt64, math.MinInt64, math.MinInt64 + 1} {
			wantSolved(t, what, c.c, budget, refused)
		}
	}
	if got := impl.Solve(far, impl.MaxSolve); got.Verdict != impl.Unknown || got.Steps != impl.MaxSolve || len(got.Lemmas) < 100 || got.Trues != nil {
		t.Errorf("the crowd is not far: %+v", got)
	}
}

// A verdict in just MaxSolve steps is told, one in a step more is not.
func TestSolveThatNeedsJustMaxSolve(t *testing.T) {
	t.Parallel()
	for _, steps := range []int64{impl.MaxSolve - 1, impl.MaxSolve, impl.MaxSolve + 1} {
		for what, c := range map[string]impl.Cnf{"a Yes": yesInSteps(steps), "a No": noInSteps(steps)} {
			if what == "a No" && steps%2 == 0 {
				continue
			}
			whole := searchByHand(c, steps)
			if whole.Verdict == impl.Unknown || whole.Steps != steps {
				t.Fatalf("%s in %d steps needs %d", what, steps, whole.Steps)
			}
			for budget := int64(impl.MaxSolve - 4); budget <= impl.MaxSolve+2; budget++ {
				wantSolved(t, fmt.Sprint(what, " in ", steps), c, budget, solveByHand(c, budget))
			}
			got := impl.Solve(c, impl.MaxSolve)
			if steps > impl.MaxSolve && (got.Verdict != impl.Unknown || got.Steps != impl.MaxSolve) || steps <= impl.MaxSolve && !sameSolved(got, whole) {
				t.Errorf("%s in %d steps: got %+v", what, steps, got)
			}
		}
	}
}

// Of MaxVars variables and no clause one is decided a step, and all are true in one step more.
func TestSolveOfMaxVars(t *testing.T) {
	t.Parallel()
	c := impl.Cnf{Vars: impl.MaxVars}
	for budget := int64(0); budget <= impl.MaxSolve; budget++ {
		want := unknownIn(budget)
		if budget > impl.MaxVars {
			want = yesIn(impl.MaxVars+1, countUp(1, impl.MaxVars))
		}
		wantSolved(t, "MaxVars, no clause", c, budget, want)
	}
	for vars := int64(0); vars <= impl.MaxVars; vars++ {
		wantSolved(t, "no clause", impl.Cnf{Vars: vars}, impl.MaxSolve, yesIn(vars+1, countUp(1, vars)))
	}
	for _, backward := range []bool{false, true} {
		what := fmt.Sprint("a chain, backward: ", backward)
		c.Clauses = chain(impl.MaxVars, backward)
		wantSolved(t, what, c, impl.MaxSolve, yesIn(2, countUp(1, impl.MaxVars)))
		c.Clauses = append(c.Clauses, []int64{-96, -1})
		wantSolved(t, what+", not from its first one", c, impl.MaxSolve, yesIn(4, countUp(2, impl.MaxVars), []int64{-1}))
		c.Clauses = append(c.Clauses, []int64{-96})
		wantSolved(t, what+", not to its last one", c, impl.MaxSolve, yesIn(1, nil))
		c.Clauses = append(c.Clauses, []int64{1})
		wantSolved(t, what+", from its first one and not to its last", c, impl.MaxSolve, noIn(1, nil))
	}
	// The lemma has all variables but the last one, that follows.
	c.Clauses = [][]int64{{-95, 96}, {-95, -96}}
	wantSolved(t, "a lemma of 95", c, impl.MaxSolve, yesIn(98, append(countUp(1, 94), 96), minus(countUp(1, 95))))
	// The last five can't be, whatever is decided ahead of them: the decisions that do not matter stand in each lemma, too.
	c.Clauses = shifted(allSigns(5), 91)
	want := searchByHand(c, impl.MaxSolve)
	if want.Verdict != impl.Unknown || len(want.Lemmas) < 50 || len(want.Lemmas[0]) != 95 {
		t.Errorf("lemmas of 95 are %v", want.Lemmas)
	}
	wantSolved(t, "lemmas of 95", c, impl.MaxSolve, want)
}

func TestSolveOfMaxClauses(t *testing.T) {
	many := impl.Cnf{Vars: 3, Clauses: append(clausesOf(impl.MaxClauses-1, -2), []int64{3})}
	wantSolved(t, "MaxClauses", many, impl.MaxSolve, yesIn(2, []int64{1, 3}))
	many.Clauses[impl.MaxClauses-1] = []int64{2}
	wantSolved(t, "MaxClauses, the last one false", many, impl.MaxSolve, noIn(1, nil))
	// The lemmas come behind all of them.
	many = impl.Cnf{Vars: 3, Clauses: append(repeated(impl.MaxClauses-8, 1, 2, 3), allSigns(3)...)}
	wantSolved(t, "MaxClauses, a No behind decisions", many, impl.MaxSolve, noIn(7, []int64{-1, -2}, []int64{-1}, []int64{-2}, nil))
	wide := impl.Cnf{Vars: impl.MaxVars, Clauses: [][]int64{countUp(-16, -1), countUp(81, 96)}}
	wantSolved(t, "MaxWide", wide, impl.MaxSolve, yesIn(96, append(countUp(1, 15), countUp(17, 96)...)))
}

func TestSolveOfWrongClauses(t *testing.T) {
	for what, c := range wrongCnfs() {
		for _, budget := range []int64{0, 1, 7, impl.MaxSolve, -1, impl.MaxSolve + 1, math.MinInt64, math.MaxInt64} {
			wantSolved(t, what, c, budget, impl.SolveOut{Code: impl.ErrForm})
		}
	}
	for what, c := range rightCnfs() {
		for _, budget := range []int64{0, 1, 2, 3, 96, 97, impl.MaxSolve, -1, impl.MaxSolve + 1, math.MinInt64, math.MaxInt64} {
			wantSolved(t, what, c, budget, solveByHand(c, budget))
		}
	}
}

func TestSolveByHandOfWhatMayBeWrong(t *testing.T) {
	t.Parallel()
	random := rand.New(rand.NewSource(90))
	counts := map[int64]int{}
	for i := range 6000 {
		c := solveCase(random, i)
		if len(c.Clauses) > 0 && random.Intn(4) == 0 {
			if clause := c.Clauses[random.Intn(len(c.Clauses))]; len(clause) > 0 {
				clause[random.Intn(len(clause))] = random.Int63n(2*c.Vars+3) - c.Vars - 1
			}
		}
		budget := random.Int63n(40) - 1
		if random.Intn(4) == 0 {
			budget = random.Int63n(impl.MaxSolve+20) - 10
		}
		want := solveByHand(c, budget)
		counts[10*want.Code+want.Verdict]++
		wantSolved(t, fmt.Sprint(c), c, budget, want)
	}
	for _, kind := range []int64{10 * impl.ErrForm, impl.Yes, impl.No, impl.Unknown} {
		if counts[kind] < 300 {
			t.Errorf("codes and verdicts are %v", counts)
		}
	}
}

// wantPromise31: told without a run by hand; the verdict is that within MaxSolve.
func wantPromise31(t *testing.T, c impl.Cnf) impl.SolveOut {
	t.Helper()
	what := fmt.Sprint(c)
	last := impl.Solve(c, impl.MaxSolve)
	ahead := impl.SolveOut{}
	for budget := int64(0); budget <= impl.MaxSolve; budget++ {
		got := impl.Solve(c, budget)
		count := impl.SolveCount(c, budget)
		if got.Code != impl.OK || got.Steps < 0 || got.Steps > budget {
			t.Fatalf("%.400s within %d: got %+v", what, budget, got)
		}
		if got.Verdict != impl.Unknown {
			if !sameSolved(got, last) || count != got.Steps || budget < got.Steps {
				t.Errorf("%.400s within %d: got %+v in %d, but %+v within MaxSolve", what, budget, got, count, last)
			}
			// Just as many steps do, and one less does not.
			if ahead.Verdict != got.Verdict && budget != got.Steps {
				t.Errorf("%.400s within %d: the verdict comes in %d steps", what, budget, got.Steps)
			}
		} else if got.Steps != budget || len(got.Trues) != 0 || count != -1 || ahead.Verdict == impl.Yes || ahead.Verdict == impl.No {
			t.Errorf("%.400s within %d: got %+v in %d, behind %+v", what, budget, got, count, ahead)
		}
		// A greater budget leaves the lemmas that there were.
		if len(ahead.Lemmas) > len(got.Lemmas) || !slices.EqualFunc(ahead.Lemmas, got.Lemmas[:len(ahead.Lemmas)], slices.Equal[[]int64]) || len(got.Lemmas) > len(ahead.Lemmas)+1 {
			t.Errorf("%.400s within %d: the lemmas are %v, behind %v", what, budget, got.Lemmas, ahead.Lemmas)
		}
		ahead = got
	}
	return last
}

// Promise 31.
func TestAGreaterBudgetSaysTheSameInTheSameSteps(t *testing.T) {
	t.Parallel()
	random := rand.New(rand.NewSource(3131))
	counts := map[int64]int{}
	far := 0
	for i := range 240 {
		c := solveCase(random, i)
		if i == 0 {
			c = hardCase(random, 60)
		}
		out := wantPromise31(t, c)
		counts[out.Verdict]++
		if out.Verdict != impl.Unknown && out.Steps > 20 {
			far++
		}
	}
	if counts[impl.Yes] < 30 || counts[impl.No] < 30 || counts[impl.Unknown] < 1 || far < 10 {
		t.Errorf("verdicts are %v, %d of them far", counts, far)
	}
	for _, c := range []impl.Cnf{{}, {Clauses: [][]int64{{}}}, {Vars: 1}, {Vars: impl.MaxVars}, crowdIn(3), crowdIn(4)} {
		wantPromise31(t, c)
	}
}

// What is said is so: by trues that make all clauses true, by none that do, by lemmas each of which leads to a false clause at once.
func TestSolveSaysWhatIsSo(t *testing.T) {
	t.Parallel()
	random := rand.New(rand.NewSource(14))
	counts := map[int64]int{}
	for i := range 1500 {
		c := solveCase(random, i)
		out := impl.Solve(c, impl.MaxSolve)
		counts[out.Verdict]++
		if out.Verdict == impl.Yes && clauseFaultByHand(c, out.Trues) != -1 {
			t.Errorf("%.400s: %v do not make all clauses true", fmt.Sprint(c), out.Trues)
		}
		if out.Verdict == impl.No && c.Vars < 10 {
			for _, trues := range eachTrues(c.Vars) {
				if clauseFaultByHand(c, trues) == -1 {
					t.Errorf("%.400s: No, but %v make all clauses true", fmt.Sprint(c), trues)
				}
			}
		}
		for at, lemma := range out.Lemmas {
			if (len(lemma) == 0) != (out.Verdict == impl.No && at == len(out.Lemmas)-1) {
				t.Errorf("%.400s: the empty lemma is at %d of %v, the verdict is %d", fmt.Sprint(c), at, out.Lemmas, out.Verdict)
			}
			if got := impl.UnitRun(c, out.Lemmas[:at], minus(lemma)); got.Code != impl.OK || got.Conflict < 0 {
				t.Errorf("%.400s: the lemma at %d of %v does not follow", fmt.Sprint(c), at, out.Lemmas)
			}
		}
		if out.Verdict == impl.No && len(out.Lemmas) == 0 {
			t.Errorf("%.400s: a No without a lemma", fmt.Sprint(c))
		}
	}
	if counts[impl.Yes] < 200 || counts[impl.No] < 200 {
		t.Errorf("verdicts are %v", counts)
	}
}

// Of the clauses of stations it says just what trying out says, and its trues are a right plan.
func TestSolveOfStations(t *testing.T) {
	random := rand.New(rand.NewSource(1010))
	counts := map[int64]int{}
	for range 400 {
		table := crowdedTable(random, 2+random.Intn(impl.MaxStations-1))
		ids := someOf(random, idsByHand(table))
		top := int64(2 + random.Intn(8))
		c := impl.CnfOf(table, top, ids)
		out := impl.Solve(c, impl.MaxSolve)
		counts[out.Verdict]++
		wantSolved(t, fmt.Sprint(c), c, impl.MaxSolve, searchByHand(c, impl.MaxSolve))
		if out.Verdict == impl.Unknown {
			continue
		}
		if found := impl.PlanFind(table, top, ids, impl.MaxBudget); found.Verdict != impl.Unknown && found.Verdict != out.Verdict {
			t.Errorf("%v up to %d of %v: the verdict is %d, by trying %d", table, top, ids, out.Verdict, found.Verdict)
		}
		plan := impl.PlanOf(table, top, ids, out.Trues)
		if out.Verdict == impl.Yes && (len(plan) != len(ids) || faultByHand(table, top, plan) != 0) {
			t.Errorf("%v up to %d of %v: %v are the plan %v", table, top, ids, out.Trues, plan)
		}
	}
	if counts[impl.Yes] < 50 || counts[impl.No] < 50 {
		t.Errorf("verdicts are %v", counts)
	}
}

func TestSolveKeepsNothing(t *testing.T) {
	random := rand.New(rand.NewSource(91))
	c := hardCase(random, 12)
	first := impl.Solve(c, impl.MaxSolve)
	few := impl.Solve(c, 5)
	for i := range 200 {
		impl.Solve(solveCase(random, i), random.Int63n(impl.MaxSolve+3)-1)
		impl.SolveCount(impl.Cnf{Vars: 3, Clauses: [][]int64{{1, 1}}}, 10)
		wantSolved(t, "again", c, impl.MaxSolve, first)
		wantSolved(t, "again", c, 5, few)
	}
}

// keptSolved: a copy that shares no memory.
func keptSolved(out impl.SolveOut) impl.SolveOut {
	lemmas := [][]int64(nil)
	for _, lemma := range out.Lemmas {
		lemmas = append(lemmas, slices.Clone(lemma))
	}
	out.Trues, out.Lemmas = slices.Clone(out.Trues), lemmas
	return out
}

func TestSolveChangesAndSharesNothing(t *testing.T) {
	random := rand.New(rand.NewSource(900))
	withLemmas := map[int64]int{}
	for i := range 600 {
		c := solveCase(random, i)
		budget := random.Int63n(60)
		if i%3 == 0 {
			budget = impl.MaxSolve
		}
		own := roomyCnf(c)
		before := allOfCnf(own)
		first, second, third := impl.Solve(own, budget), impl.Solve(own, budget), impl.Solve(own, budget)
		impl.SolveCount(own, budget)
		want := keptSolved(first)
		if len(want.Lemmas) > 1 {
			withLemmas[want.Verdict]++
		}
		spoilsApart(t, "the lemmas", first.Lemmas, want.Lemmas)
		wantNumbers(t, "trues behind lemmas that are spoiled", first.Trues, want.Trues)
		// From the last one on, too: one that is spoiled might reach ahead.
		spoilNumbers(second.Trues)
		slices.Reverse(second.Lemmas)
		back := slices.Clone(want.Lemmas)
		slices.Reverse(back)
		if !slices.EqualFunc(second.Lemmas, back, slices.Equal[[]int64]) {
			t.Errorf("%.400s: lemmas are changed with the trues", fmt.Sprint(c))
		}
		spoilsApart(t, "the lemmas, the last one first", second.Lemmas, back)
		clear(second.Lemmas[:cap(second.Lemmas)])
		if !slices.EqualFunc(allOfCnf(own), before, slices.Equal[[]int64]) || own.Vars != c.Vars {
			t.Errorf("%.400s: what was handed in is changed, or the answer shares its memory", fmt.Sprint(c))
		}
		for _, clause := range own.Clauses {
			spoilNumbers(clause)
		}
		clear(own.Clauses[:cap(own.Clauses)])
		if !sameSolved(third, want) {
			t.Errorf("%.400s: two answers share memory, or one with what was handed in", fmt.Sprint(c))
		}
	}
	if withLemmas[impl.Yes] < 20 || withLemmas[impl.No] < 20 || withLemmas[impl.Unknown] < 20 {
		t.Errorf("answers with lemmas are %v", withLemmas)
	}
}

// A run that has the most to do: many wide clauses, most of which is false in each step, and a long chain in each.
func TestSolveOfTheMostThereIs(t *testing.T) {
	c := impl.Cnf{Vars: impl.MaxVars, Clauses: repeated(impl.MaxClauses-87, append(countUp(-24, -11), 95, 96)...)}
	for v := int64(93); v >= 11; v-- {
		c.Clauses = append(c.Clauses, []int64{-v, v + 1})
	}
	c.Clauses = append(c.Clauses, []int64{-9, 11}, []int64{9, 11}, []int64{-94, -9}, []int64{-94, 9})
	out := impl.Solve(c, impl.MaxSolve)
	if out.Verdict != impl.Unknown || out.Steps != impl.MaxSolve || len(out.Lemmas) < 100 || out.Trues != nil {
		t.Errorf("the most there is: got %+v", out)
	}
	for at, want := range [][]int64{countUp(1, 9), countUp(1, 8), append(countUp(1, 7), 9)} {
		wantNumbers(t, fmt.Sprint("its lemma at ", at), out.Lemmas[at], minus(want))
	}
}
