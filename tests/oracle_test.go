package tests

import (
	"fmt"
	"math"
	"math/rand"
	"slices"
	"testing"

	"loop.example/g00144/impl"
)

// allAskedByHand: what AskAll is to tell.
func allAskedByHand(table impl.Table, top int64, ids []int64, budget int64) impl.AskOut {
	if len(ids) > impl.MaxList {
		return impl.AskOut{Code: impl.ErrSize}
	}
	if !idsRightByHand(table, ids) || budget < 0 || budget > impl.MaxSolve {
		return impl.AskOut{Code: impl.ErrForm}
	}
	solved := searchByHand(cnfByHand(table, top, ids), budget)
	out := impl.AskOut{Verdict: solved.Verdict, How: impl.HowSolve, Lemmas: solved.Lemmas, Steps: solved.Steps}
	variable := int64(0)
	for _, id := range ids {
		for _, channel := range domainByHand(table, id, top) {
			variable++
			if slices.Contains(solved.Trues, variable) {
				out.Plan = append(out.Plan, impl.Place{Id: id, Channel: channel})
			}
		}
	}
	return out
}

// oneAskedByHand: what AskOne is to tell.
func oneAskedByHand(table impl.Table, top int64, plan []impl.Place, id int64, budget int64) impl.AskOut {
	if len(plan) > impl.MaxList {
		return impl.AskOut{Code: impl.ErrSize}
	}
	ids := []int64{id}
	for _, place := range plan {
		ids = append(ids, place.Id)
	}
	slices.Sort(ids)
	if faultByHand(table, top, plan) != 0 || !idsRightByHand(table, ids) || budget < 0 || budget > impl.MaxSolve {
		return impl.AskOut{Code: impl.ErrForm}
	}
	if longer := addByHand(table, top, plan, id); longer != nil {
		return impl.AskOut{Verdict: impl.Yes, How: impl.HowAdd, Plan: longer}
	}
	return allAskedByHand(table, top, ids, budget)
}

// answerByHand: what AnswerRight is to tell.
func answerByHand(table impl.Table, top int64, ids []int64, a impl.AskOut) bool {
	if len(ids) > impl.MaxList || !idsRightByHand(table, ids) || a.Code != impl.OK {
		return false
	}
	switch a.Verdict {
	case impl.Yes:
		own := []int64(nil)
		for _, place := range a.Plan {
			own = append(own, place.Id)
		}
		return slices.Equal(own, ids) && faultByHand(table, top, a.Plan) == 0
	case impl.No:
		return proofByHand(cnfByHand(table, top, ids), a.Lemmas) == wholeProof()
	case impl.Unknown:
		return true
	}
	return false
}

// couldHave: is there a right plan of all ids behind those ahead, whatever it takes to find it?
func couldHave(table impl.Table, top int64, ids []int64, ahead []impl.Place) bool {
	if len(ids) == 0 {
		return true
	}
	for _, channel := range domainByHand(table, ids[0], top) {
		place := impl.Place{Id: ids[0], Channel: channel}
		if slices.ContainsFunc(ahead, func(p impl.Place) bool { return !mayHaveByHand(table, p, place) }) {
			continue
		}
		if couldHave(table, top, ids[1:], append(slices.Clone(ahead), place)) {
			return true
		}
	}
	return false
}

// sameAsked: an empty list and none are the same.
func sameAsked(got impl.AskOut, want impl.AskOut) bool {
	return got.Verdict == want.Verdict && got.How == want.How && got.Steps == want.Steps && got.Code == want.Code &&
		slices.Equal(got.Plan, want.Plan) && slices.EqualFunc(got.Lemmas, want.Lemmas, slices.Equal[[]int64])
}

func wantAsked(t *testing.T, what string, got impl.AskOut, want impl.AskOut) {
	t.Helper()
	if !sameAsked(got, want) {
		t.Errorf("%.600s: got %+v, want %+v", what, got, want)
	}
}

func wantAnswer(t *testing.T, what string, table impl.Table, top int64, ids []int64, a impl.AskOut, want bool) {
	t.Helper()
	if got := impl.AnswerRight(table, top, ids, a); got != want {
		t.Errorf("%.600s: %+v is told to be right: %v", what, a, got)
	}
}

func wantSteps(t *testing.T, what string, table impl.Table, top int64, ids []int64, want int64) {
	t.Helper()
	if got := impl.AskSteps(table, top, ids); got != want {
		t.Errorf("%.600s: the steps are told as %d, want %d", what, got, want)
	}
}

// crowdOf: Stations of these Domains, from Id 1 on, no two of which may have the same channel.
func crowdOf(domains ...[]int64) impl.Table {
	table := impl.Table{Stations: stationsOf(len(domains))}
	for i, domain := range domains {
		table.Stations[i].Domain = slices.Clone(domain)
		for j := i + 1; j < len(domains); j++ {
			table.Pairs = append(table.Pairs, impl.Pair{A: int64(i + 1), B: int64(j + 1), Kind: impl.PairSame})
		}
	}
	return table
}

// crowdOn: so many Stations on so many channels, no two of them on the same one.
func crowdOn(stations int, count int) impl.Table {
	domains := [][]int64(nil)
	for range stations {
		domains = append(domains, channels(2, count))
	}
	return crowdOf(domains...)
}

// longYes: all may have channels, told in 298 steps; each Station more that is in no Pair takes one step more.
func longYes(more int) impl.Table {
	table := crowdOf([]int64{2, 3, 4, 40}, []int64{2, 3, 4, 7}, []int64{2, 4, 5, 6, 7}, channels(2, 6), channels(2, 6), []int64{2, 3, 4, 6, 7}, channels(2, 6))
	for i := range more {
		table.Stations = append(table.Stations, impl.Station{Id: int64(8 + i), Score: 1, Domain: []int64{2, 3}})
	}
	return table
}

// longNo: not all may have channels, shown in 299 steps.
func longNo() impl.Table {
	return crowdOf([]int64{2, 3, 4, 6, 7}, channels(2, 6), []int64{2, 3, 5, 6, 7}, []int64{2, 5, 6, 7}, []int64{3, 5, 7}, []int64{2, 3, 4, 5, 7}, channels(3, 5))
}

func yesAsked(steps int64, plan []impl.Place, lemmas ...[]int64) impl.AskOut {
	return impl.AskOut{Verdict: impl.Yes, How: impl.HowSolve, Plan: plan, Lemmas: lemmas, Steps: steps}
}

func noAsked(steps int64, lemmas ...[]int64) impl.AskOut {
	return impl.AskOut{Verdict: impl.No, How: impl.HowSolve, Lemmas: lemmas, Steps: steps}
}

func unknownAsked(steps int64, lemmas ...[]int64) impl.AskOut {
	return impl.AskOut{Verdict: impl.Unknown, How: impl.HowSolve, Lemmas: lemmas, Steps: steps}
}

func addedAsked(numbers ...int64) impl.AskOut {
	return impl.AskOut{Verdict: impl.Yes, How: impl.HowAdd, Plan: placesOf(numbers...)}
}

func refusedAsked(code int64) impl.AskOut {
	return impl.AskOut{Code: code}
}

func TestAskAllAtItsEdges(t *testing.T) {
	four := fourStations()
	for _, c := range []struct {
		what  string
		table impl.Table
		top   int64
		ids   []int64
		want  impl.AskOut
	}{
		{"no Station", four, 51, nil, yesAsked(1, nil)},
		{"no Station, an empty list", four, 51, []int64{}, yesAsked(1, nil)},
		{"no Station, the least top there is", four, math.MinInt64, nil, yesAsked(1, nil)},
		{"one", four, 51, []int64{20}, yesAsked(2, placesOf(20, 4))},
		{"one of one channel up to top", four, 6, []int64{21}, yesAsked(1, placesOf(21, 6))},
		{"one whose second channel is at top", four, 51, []int64{21}, yesAsked(2, placesOf(21, 6))},
		{"one whose second channel is above top", four, 50, []int64{21}, yesAsked(1, placesOf(21, 6))},
		{"one of no channel up to top", four, 5, []int64{21}, noAsked(1, nil)},
		{"one of no channel beside others", four, 5, []int64{3, 8, 21}, noAsked(1, nil)},
		{"two without a Pair", four, 51, []int64{8, 20}, yesAsked(3, placesOf(8, 3, 20, 4))},
		{"the first kind", four, 4, []int64{3, 8}, yesAsked(1, placesOf(3, 4, 8, 3))},
		{"the second kind", four, 51, []int64{3, 20}, yesAsked(3, placesOf(3, 4, 20, 6))},
		{"the second kind, two channels", four, 5, []int64{3, 20}, noAsked(3, []int64{-1}, nil)},
		{"the second kind, one channel", four, 4, []int64{3, 20}, noAsked(1, nil)},
		{"all of a table", four, 51, []int64{3, 8, 20, 21}, yesAsked(5, placesOf(3, 4, 8, 3, 20, 6, 21, 6))},
		{"all of a table, a lower top", four, 6, []int64{3, 8, 20, 21}, yesAsked(3, placesOf(3, 4, 8, 3, 20, 6, 21, 6))},
		{"all of a table, a top below one", four, 5, []int64{3, 8, 20, 21}, noAsked(1, nil)},
		{"the least channel as top", oneStation(7, 7, 2, 51), 2, []int64{7}, yesAsked(1, placesOf(7, 2))},
		{"one below the least channel", oneStation(7, 7, 2, 51), 1, []int64{7}, noAsked(1, nil)},
		{"the greatest channel as top", oneStation(7, 7, 51), 51, []int64{7}, yesAsked(1, placesOf(7, 51))},
		{"one below the greatest channel", oneStation(7, 7, 51), 50, []int64{7}, noAsked(1, nil)},
		{"top 0", four, 0, []int64{3}, noAsked(1, nil)},
		{"a top below 0", four, -8, []int64{3}, noAsked(1, nil)},
		{"the least top there is", four, math.MinInt64, []int64{3}, noAsked(1, nil)},
		{"the greatest top there is", four, math.MaxInt64, []int64{3, 20}, yesAsked(3, placesOf(3, 4, 20, 6))},
		{"two on one channel", crowdOn(2, 1), 51, []int64{1, 2}, noAsked(1, nil)},
		{"one of two on one channel", crowdOn(2, 1), 51, []int64{2}, yesAsked(1, placesOf(2, 2))},
		{"three on two channels", crowdOn(3, 2), 51, []int64{1, 2, 3}, noAsked(3, []int64{-1}, nil)},
		{"two of three on two channels", crowdOn(3, 2), 51, []int64{1, 3}, yesAsked(2, placesOf(1, 2, 3, 3))},
		{"four on three channels", crowdOn(4, 3), 51, []int64{1, 2, 3, 4},
			noAsked(11, []int64{-1, -5}, []int64{-1}, []int64{-2, -4}, []int64{-2}, []int64{-4}, nil)},
		{"a lemma ahead of a Yes", crowdOf([]int64{2, 3}, []int64{2, 4}, []int64{2, 4}), 51, []int64{1, 2, 3},
			yesAsked(4, placesOf(1, 3, 2, 2, 3, 4), []int64{-1})},
		{"the solver's plan, not the first one", crowdOf([]int64{2, 3}, []int64{2}), 51, []int64{1, 2}, yesAsked(1, placesOf(1, 3, 2, 2))},
	} {
		for _, budget := range []int64{c.want.Steps, c.want.Steps + 1, impl.MaxSolve} {
			wantAsked(t, c.what, impl.AskAll(c.table, c.top, c.ids, budget), c.want)
		}
		less := allAskedByHand(c.table, c.top, c.ids, c.want.Steps-1)
		if less.Verdict != impl.Unknown || less.Plan != nil || less.Steps != c.want.Steps-1 {
			t.Errorf("%s by hand, one step less: %+v", c.what, less)
		}
		wantAsked(t, c.what+", one step less", impl.AskAll(c.table, c.top, c.ids, c.want.Steps-1), less)
		wantAsked(t, c.what+", no step", impl.AskAll(c.table, c.top, c.ids, 0), unknownAsked(0))
		wantAsked(t, c.what+", by hand", allAskedByHand(c.table, c.top, c.ids, impl.MaxSolve), c.want)
		wantSteps(t, c.what, c.table, c.top, c.ids, c.want.Steps)
		wantAnswer(t, c.what, c.table, c.top, c.ids, c.want, true)
	}
}

// Each budget up to the verdict, and a greater one: where it ends, the lemmas that are made by then are told, too.
func TestAskAllWithinEachBudget(t *testing.T) {
	table, ids := crowdOn(4, 3), []int64{1, 2, 3, 4}
	lemmas := [][]int64{{-1, -5}, {-1}, {-2, -4}, {-2}, {-4}, nil}
	for budget, made := range []int{0, 0, 0, 1, 2, 2, 2, 3, 4, 4, 5} {
		want := unknownAsked(int64(budget), lemmas[:made]...)
		wantAsked(t, "a No", impl.AskAll(table, 51, ids, int64(budget)), want)
		wantAnswer(t, "a No", table, 51, ids, want, true)
	}
	for budget := int64(11); budget <= impl.MaxSolve; budget++ {
		wantAsked(t, "a No", impl.AskAll(table, 51, ids, budget), noAsked(11, lemmas...))
	}
	table, ids = crowdOf([]int64{2, 3}, []int64{2, 4}, []int64{2, 4}), []int64{1, 2, 3}
	for budget, want := range []impl.AskOut{
		unknownAsked(0),
		unknownAsked(1),
		unknownAsked(2, []int64{-1}),
		unknownAsked(3, []int64{-1}),
		yesAsked(4, placesOf(1, 3, 2, 2, 3, 4), []int64{-1}),
		yesAsked(4, placesOf(1, 3, 2, 2, 3, 4), []int64{-1}),
	} {
		wantAsked(t, "a Yes", impl.AskAll(table, 51, ids, int64(budget)), want)
		wantAnswer(t, "a Yes", table, 51, ids, want, true)
	}
}

// Verdicts around MaxSolve steps: what needs just so many is told, what needs one more is not.
func TestAskAllAroundMaxSolve(t *testing.T) {
	t.Parallel()
	for more := range 4 {
		table, steps := longYes(more), int64(298+more)
		ids := idsByHand(table)
		what := fmt.Sprint("a Yes in ", steps)
		whole := searchByHand(cnfByHand(table, 51, ids), steps)
		if whole.Verdict != impl.Yes || whole.Steps != steps {
			t.Fatalf("%s: by hand %+v", what, whole)
		}
		for budget := int64(296); budget <= impl.MaxSolve; budget++ {
			got := impl.AskAll(table, 51, ids, budget)
			wantAsked(t, what, got, allAskedByHand(table, 51, ids, budget))
			wantAnswer(t, what, table, 51, ids, got, true)
			if budget < steps && (got.Verdict != impl.Unknown || got.Steps != budget || got.Plan != nil) || budget >= steps && got.Verdict != impl.Yes {
				t.Errorf("%s: within %d %+v", what, budget, got)
			}
		}
		want := steps
		if steps > impl.MaxSolve {
			want = -1
		}
		wantSteps(t, what, table, 51, ids, want)
	}
	table := longNo()
	ids := idsByHand(table)
	for budget := int64(297); budget <= impl.MaxSolve; budget++ {
		got := impl.AskAll(table, 51, ids, budget)
		wantAsked(t, "a No in 299", got, allAskedByHand(table, 51, ids, budget))
		wantAnswer(t, "a No in 299", table, 51, ids, got, true)
		if (got.Verdict == impl.No) != (budget >= 299) {
			t.Errorf("a No in 299: within %d the verdict is %d", budget, got.Verdict)
		}
	}
	wantSteps(t, "a No in 299", table, 51, ids, 299)
	for _, stations := range []int{7, 8, 9} {
		table := crowdOn(stations, stations-1)
		got := impl.AskAll(table, 51, idsByHand(table), impl.MaxSolve)
		if got.Verdict != impl.Unknown || got.Steps != impl.MaxSolve || got.Plan != nil || len(got.Lemmas) < 100 || got.How != impl.HowSolve {
			t.Errorf("%d Stations on one channel less: got %+v", stations, got)
		}
		wantAnswer(t, "Unknown", table, 51, idsByHand(table), got, true)
		wantSteps(t, "Unknown", table, 51, idsByHand(table), -1)
	}
}

// wrongBudgets: beside 0 to MaxSolve.
func wrongBudgets() []int64 {
	return []int64{-1, -2, -impl.MaxSolve, impl.MaxSolve + 1, impl.MaxBudget, 4294967296, 4294967297, math.MinInt64, math.MaxInt64}
}

// someBudgets: right and wrong ones.
func someBudgets() []int64 {
	return append([]int64{0, 1, 2, 100, impl.MaxSolve}, wrongBudgets()...)
}

func TestAskOfWrongBudgets(t *testing.T) {
	form := refusedAsked(impl.ErrForm)
	four := fourStations()
	for _, budget := range wrongBudgets() {
		what := fmt.Sprint("within ", budget)
		for _, top := range []int64{math.MinInt64, 0, 5, 51, math.MaxInt64} {
			wantAsked(t, what, impl.AskAll(four, top, nil, budget), form)
			wantAsked(t, what, impl.AskAll(four, top, []int64{3, 8, 20, 21}, budget), form)
			wantAsked(t, what, impl.AskOne(four, top, nil, 3, budget), form)
		}
		// Also where the Station could only be added, without a step.
		wantAsked(t, what+", added", impl.AskOne(four, 51, placesOf(3, 4), 8, budget), form)
		wantAsked(t, what+", moved", impl.AskOne(crowdOf([]int64{2, 3}, []int64{2}), 51, placesOf(1, 2), 2, budget), form)
		wantAsked(t, what+", none left", impl.AskOne(crowdOn(2, 1), 51, placesOf(1, 2), 2, budget), form)
	}
}

func TestAskOfWrongIds(t *testing.T) {
	four := fourStations()
	for _, ids := range [][]int64{{0}, {-3}, {4}, {22}, {3, 4}, {3, 3}, {8, 3}, {3, 20, 8}, {3, 8, 20, 21, 21}, {3, 8, 20, 21, 22}, {math.MinInt64, 3}, {3, math.MaxInt64}} {
		for _, top := range []int64{math.MinInt64, 0, 51, math.MaxInt64} {
			what := fmt.Sprint(ids, " up to ", top)
			for _, budget := range someBudgets() {
				wantAsked(t, what, impl.AskAll(four, top, ids, budget), refusedAsked(impl.ErrForm))
			}
			wantSteps(t, what, four, top, ids, -1)
			wantAnswer(t, what, four, top, ids, unknownAsked(0), false)
			wantAnswer(t, what, four, top, ids, noAsked(1, nil), false)
			wantAnswer(t, what, four, top, ids, yesAsked(1, nil), false)
		}
		for _, a := range []impl.AskOut{unknownAsked(0), yesAsked(1, placesOf(3, 4)), refusedAsked(impl.ErrForm)} {
			wantAnswer(t, fmt.Sprint(ids), four, 51, ids, a, false)
		}
	}
}

func TestAskOfWrongTables(t *testing.T) {
	form := refusedAsked(impl.ErrForm)
	for what, table := range wrongTables() {
		for _, ids := range [][]int64{nil, {5}, {7}, {1, 2}, idsByHand(table)} {
			if len(ids) > impl.MaxList {
				continue
			}
			for _, budget := range someBudgets() {
				wantAsked(t, what, impl.AskAll(table, 51, ids, budget), form)
			}
			wantSteps(t, what, table, 51, ids, -1)
			for _, a := range []impl.AskOut{unknownAsked(0), yesAsked(1, nil), yesAsked(1, placesOf(7, 2)), noAsked(1, nil)} {
				wantAnswer(t, what, table, 51, ids, a, false)
			}
		}
		for _, plan := range [][]impl.Place{nil, placesOf(5, 2), placesOf(7, 2)} {
			for _, id := range []int64{1, 5, 7, 12} {
				for _, budget := range []int64{-1, 0, 100, impl.MaxSolve, impl.MaxSolve + 1} {
					wantAsked(t, what, impl.AskOne(table, 51, plan, id, budget), form)
				}
			}
		}
	}
}

func TestAskOneAtItsEdges(t *testing.T) {
	four := fourStations()
	form := refusedAsked(impl.ErrForm)
	movable := crowdOf([]int64{2, 3}, []int64{2})
	tight := crowdOf([]int64{2, 3}, []int64{2, 4}, []int64{2, 4})
	for _, c := range []struct {
		what  string
		table impl.Table
		top   int64
		plan  []impl.Place
		id    int64
		want  impl.AskOut
	}{
		{"to an empty plan", four, 51, nil, 20, addedAsked(20, 4)},
		{"to an empty list", four, 51, []impl.Place{}, 3, addedAsked(3, 4)},
		{"to an empty plan, at top", four, 6, nil, 21, addedAsked(21, 6)},
		{"to an empty plan, above top", four, 5, nil, 21, noAsked(1, nil)},
		{"to an empty plan, top 0", four, 0, nil, 3, noAsked(1, nil)},
		{"to an empty plan, the least top there is", four, math.MinInt64, nil, 3, noAsked(1, nil)},
		{"to an empty plan, the greatest top there is", four, math.MaxInt64, nil, 3, addedAsked(3, 4)},
		{"to an empty plan, the least channel as top", oneStation(7, 7, 2, 51), 2, nil, 7, addedAsked(7, 2)},
		{"to an empty plan, the greatest channel as top", oneStation(7, 7, 51), 51, nil, 7, addedAsked(7, 51)},
		{"ahead of others", four, 51, placesOf(8, 4), 3, addedAsked(3, 5, 8, 4)},
		{"between others", four, 51, placesOf(3, 4, 21, 6), 8, addedAsked(3, 4, 8, 3, 21, 6)},
		{"behind others", four, 51, placesOf(3, 4, 8, 3), 21, addedAsked(3, 4, 8, 3, 21, 6)},
		{"the last one of all", four, 51, placesOf(3, 8, 8, 6, 20, 4), 21, addedAsked(3, 8, 8, 6, 20, 4, 21, 6)},
		{"the others stay, where a solver would move them", four, 51, placesOf(3, 8), 20, addedAsked(3, 8, 20, 4)},
		{"a channel only if the other is moved", movable, 51, placesOf(1, 2), 2, yesAsked(1, placesOf(1, 3, 2, 2))},
		{"a channel without that", movable, 51, placesOf(1, 3), 2, addedAsked(1, 3, 2, 2)},
		{"a channel only if the one behind is moved", crowdOf([]int64{2}, []int64{2, 3}), 51, placesOf(2, 2), 1, yesAsked(1, placesOf(1, 2, 2, 3))},
		{"a channel only if it is moved above top", movable, 2, placesOf(1, 2), 2, noAsked(1, nil)},
		{"a channel only if a third one is moved", tight, 51, placesOf(1, 2, 2, 4), 3, yesAsked(4, placesOf(1, 3, 2, 2, 3, 4), []int64{-1})},
		{"neighbours have to be moved", four, 6, placesOf(3, 5), 20, yesAsked(2, placesOf(3, 4, 20, 6))},
		{"no channel is left", crowdOn(2, 1), 51, placesOf(1, 2), 2, noAsked(1, nil)},
		{"no channel is left ahead", crowdOn(2, 1), 51, placesOf(2, 2), 1, noAsked(1, nil)},
		{"no channel is left on two", crowdOn(3, 2), 51, placesOf(1, 3, 3, 2), 2, noAsked(3, []int64{-1}, nil)},
		{"no channel is left on three", crowdOn(4, 3), 51, placesOf(1, 4, 2, 3, 3, 2), 4,
			noAsked(11, []int64{-1, -5}, []int64{-1}, []int64{-2, -4}, []int64{-2}, []int64{-4}, nil)},
		{"no channel up to top beside others", four, 5, placesOf(3, 4), 21, noAsked(1, nil)},
		{"in the plan already", four, 51, placesOf(3, 4, 8, 3), 3, form},
		{"in the plan already, the last one", four, 51, placesOf(3, 4, 8, 3), 8, form},
		{"all are in the plan", four, 51, placesOf(3, 4, 8, 3, 20, 6, 21, 6), 20, form},
		{"no Station's Id", four, 51, placesOf(3, 4), 9, form},
		{"no Station's Id, an empty plan", four, 51, nil, 22, form},
		{"Id 0", four, 51, nil, 0, form},
		{"an Id below 0", four, 51, placesOf(3, 4), -8, form},
		{"the least Id there is", four, 51, nil, math.MinInt64, form},
		{"the greatest Id there is", four, 51, nil, math.MaxInt64, form},
		{"a plan with a Channel out of the Domain", four, 51, placesOf(3, 3), 8, form},
		{"a plan with a Channel above top", four, 5, placesOf(3, 6), 8, form},
		{"a plan with a Channel above each top", four, math.MinInt64, placesOf(3, 4), 8, form},
		{"a plan with two that may not be", four, 51, placesOf(3, 5, 8, 5), 21, form},
		{"a plan with two neighbours that may not be", four, 51, placesOf(3, 5, 20, 6), 21, form},
		{"a plan of Ids that fall", four, 51, placesOf(8, 3, 3, 4), 21, form},
		{"a plan of two alike", four, 51, placesOf(3, 4, 3, 4), 21, form},
		{"a plan of no Station's Id", four, 51, placesOf(9, 4), 21, form},
		{"a plan and an id that are not right", four, 51, placesOf(9, 4), 9, form},
	} {
		least := c.want.Steps
		for _, budget := range []int64{least, least + 1, impl.MaxSolve} {
			wantAsked(t, c.what, impl.AskOne(c.table, c.top, c.plan, c.id, budget), c.want)
		}
		if c.want.How == impl.HowSolve {
			for _, budget := range []int64{0, least - 1} {
				got := impl.AskOne(c.table, c.top, c.plan, c.id, budget)
				wantAsked(t, c.what, got, oneAskedByHand(c.table, c.top, c.plan, c.id, budget))
				if got.Verdict != impl.Unknown || got.Steps != budget || got.Plan != nil {
					t.Errorf("%s within %d: got %+v", c.what, budget, got)
				}
			}
		}
		for _, budget := range wrongBudgets() {
			wantAsked(t, c.what, impl.AskOne(c.table, c.top, c.plan, c.id, budget), form)
		}
		wantAsked(t, c.what+", by hand", oneAskedByHand(c.table, c.top, c.plan, c.id, impl.MaxSolve), c.want)
	}
}

// Around MaxSolve steps: a Station that comes to a plan only if others are moved, and one that can't.
func TestAskOneAroundMaxSolve(t *testing.T) {
	t.Parallel()
	for more := range 4 {
		table, steps := longYes(more), int64(298+more)
		// Station 7 is left no channel, as long as Station 1 does not go to 40.
		plan := placesOf(1, 2, 2, 3, 3, 4, 4, 5, 5, 6, 6, 7)
		what := fmt.Sprint("in ", steps)
		for i := range more {
			plan = append(plan, impl.Place{Id: int64(8 + i), Channel: 3})
		}
		if faultByHand(table, 51, plan) != 0 || addByHand(table, 51, plan, 7) != nil {
			t.Fatalf("%s: the plan %v leaves Station 7 a channel", what, plan)
		}
		for budget := int64(297); budget <= impl.MaxSolve; budget++ {
			got := impl.AskOne(table, 51, plan, 7, budget)
			wantAsked(t, what, got, impl.AskAll(table, 51, idsByHand(table), budget))
			if (got.Verdict == impl.Yes) != (budget >= steps) || got.How != impl.HowSolve {
				t.Errorf("%s: within %d %+v", what, budget, got)
			}
		}
		wantAsked(t, what+", none", impl.AskOne(table, 51, plan, 7, 0), unknownAsked(0))
		wantAsked(t, what+", too many", impl.AskOne(table, 51, plan, 7, impl.MaxSolve+1), refusedAsked(impl.ErrForm))
	}
	crowd := crowdOn(9, 8)
	plan := placesOf(1, 9, 2, 8, 3, 7, 4, 6, 5, 5, 6, 4, 7, 3, 8, 2)
	got := impl.AskOne(crowd, 51, plan, 9, impl.MaxSolve)
	wantAsked(t, "nine on eight", got, allAskedByHand(crowd, 51, idsByHand(crowd), impl.MaxSolve))
	if got.Verdict != impl.Unknown || got.Steps != impl.MaxSolve {
		t.Errorf("nine on eight: got %+v", got)
	}
	wantAsked(t, "eight on eight", impl.AskOne(crowd, 51, plan[:7], 9, 0), addedAsked(1, 9, 2, 8, 3, 7, 4, 6, 5, 5, 6, 4, 7, 3, 9, 2))
}

func TestAskOfListsThatAreTooLong(t *testing.T) {
	four := fourStations()
	plan, ids := []impl.Place(nil), []int64(nil)
	for range impl.MaxList {
		plan, ids = append(plan, impl.Place{Id: 3, Channel: 4}), append(ids, 3)
	}
	for what, table := range map[string]impl.Table{"a right table": four, "no table": {}} {
		for _, budget := range someBudgets() {
			wantAsked(t, what+", just MaxList", impl.AskAll(table, 51, ids, budget), refusedAsked(impl.ErrForm))
			wantAsked(t, what+", just MaxList", impl.AskOne(table, 51, plan, 8, budget), refusedAsked(impl.ErrForm))
		}
		wantSteps(t, what+", just MaxList", table, 51, ids, -1)
		wantAnswer(t, what+", just MaxList", table, 51, ids, unknownAsked(0), false)
	}
	plan, ids = append(plan, impl.Place{Id: 8, Channel: 3}), append(ids, 8)
	for what, table := range map[string]impl.Table{"a right table": four, "no table": {}} {
		for _, budget := range someBudgets() {
			wantAsked(t, what, impl.AskAll(table, 51, ids, budget), refusedAsked(impl.ErrSize))
			for _, id := range []int64{3, 8, 9, 20, -1} {
				wantAsked(t, what, impl.AskOne(table, 51, plan, id, budget), refusedAsked(impl.ErrSize))
			}
		}
		// The zero answer of what is too long, ahead of the -1 of ids that are not right.
		wantSteps(t, what, table, 51, ids, 0)
		wantAnswer(t, what, table, 51, ids, unknownAsked(0), false)
		wantAnswer(t, what, table, 51, ids, yesAsked(1, plan), false)
	}
}

// Lists within an answer are no lists handed in: they are only not right, if they are too long.
func TestAnswerOfListsThatAreTooLong(t *testing.T) {
	table, ids := crowdOn(2, 1), []int64{1, 2}
	wantAnswer(t, "MaxList lemmas", table, 51, ids, noAsked(1, make([][]int64, impl.MaxList)...), true)
	wantAnswer(t, "one lemma more", table, 51, ids, noAsked(1, make([][]int64, impl.MaxList+1)...), false)
	wantAnswer(t, "Unknown beside them", table, 51, ids, unknownAsked(1, make([][]int64, impl.MaxList+1)...), true)
	long := yesAsked(1, slices.Repeat(placesOf(1, 2), impl.MaxList+1), make([][]int64, impl.MaxList+1)...)
	wantAnswer(t, "a long plan", table, 51, []int64{1}, long, false)
	wantAnswer(t, "a long plan of none", table, 51, nil, long, false)
	long.Verdict = impl.Unknown
	wantAnswer(t, "Unknown beside a long plan", table, 51, nil, long, true)
	long.Verdict, long.Plan = impl.Yes, placesOf(1, 2)
	wantAnswer(t, "Yes beside long lemmas", table, 51, []int64{1}, long, true)
}

func TestAnswerRightAtItsEdges(t *testing.T) {
	four := fourStations()
	two := crowdOn(3, 2)
	all := []int64{1, 2, 3}
	for _, c := range []struct {
		what  string
		table impl.Table
		top   int64
		ids   []int64
		a     impl.AskOut
		want  bool
	}{
		{"the zero answer", four, 51, nil, impl.AskOut{}, false},
		{"Yes of none", four, 51, nil, yesAsked(0, nil), true},
		{"Yes of none, an empty list", four, 51, []int64{}, yesAsked(0, []impl.Place{}), true},
		{"Yes of none, a plan", four, 51, nil, yesAsked(0, placesOf(3, 4)), false},
		{"No of none", four, 51, nil, noAsked(1, nil), false},
		{"Yes without a plan", four, 51, []int64{3}, yesAsked(0, nil), false},
		{"Yes with it", four, 51, []int64{3}, yesAsked(0, placesOf(3, 4)), true},
		{"Yes, another channel", four, 51, []int64{3}, yesAsked(0, placesOf(3, 8)), true},
		{"Yes, a channel out of the Domain", four, 51, []int64{3}, yesAsked(0, placesOf(3, 9)), false},
		{"Yes, at top", four, 8, []int64{3}, yesAsked(0, placesOf(3, 8)), true},
		{"Yes, above top", four, 7, []int64{3}, yesAsked(0, placesOf(3, 8)), false},
		{"Yes, another Station", four, 51, []int64{8}, yesAsked(0, placesOf(3, 4)), false},
		{"Yes, one Station less", four, 51, []int64{3, 21}, yesAsked(0, placesOf(3, 4)), false},
		{"Yes, one Station more", four, 51, []int64{3}, yesAsked(0, placesOf(3, 4, 21, 6)), false},
		{"Yes, no Station", four, 51, []int64{3}, yesAsked(0, placesOf(4, 4)), false},
		{"Yes, in another order", four, 51, []int64{3, 21}, yesAsked(0, placesOf(21, 6, 3, 4)), false},
		{"Yes, twice the same", four, 51, []int64{3}, yesAsked(0, placesOf(3, 4, 3, 4)), false},
		{"Yes, two that may not be", four, 51, []int64{3, 8}, yesAsked(0, placesOf(3, 5, 8, 5)), false},
		{"Yes, two neighbours that may not be", four, 51, []int64{3, 20}, yesAsked(0, placesOf(3, 5, 20, 6)), false},
		{"Yes, lemmas that are none beside it", four, 51, []int64{3}, yesAsked(0, placesOf(3, 4), []int64{0}), true},
		{"Yes, added", four, 51, []int64{3, 8}, addedAsked(3, 4, 8, 3), true},
		{"No, the whole proof", two, 51, all, noAsked(3, []int64{-1}, nil), true},
		{"No, another whole proof", two, 51, all, noAsked(3, []int64{1}, nil), true},
		{"No, a whole proof with more lemmas", two, 51, all, noAsked(3, []int64{-1}, nil, []int64{5}, nil), true},
		{"No, a plan beside it", two, 51, all, impl.AskOut{Verdict: impl.No, Plan: placesOf(9, 9), Lemmas: [][]int64{{-1}, {}}}, true},
		{"No, cut short", two, 51, all, noAsked(3, []int64{-1}), false},
		{"No, the empty lemma alone", two, 51, all, noAsked(3, nil), false},
		{"No, no lemma", two, 51, all, noAsked(3), false},
		{"No, a wrong literal", two, 51, all, noAsked(3, []int64{-1}, []int64{7}, nil), false},
		{"No, a literal of 0", two, 51, all, noAsked(3, []int64{-1}, []int64{0}, nil), false},
		{"No, of fewer Stations", two, 51, []int64{1, 2}, noAsked(3, []int64{-1}, nil), false},
		{"No, a lower top", two, 2, all, noAsked(3, nil), true},
		{"No, a higher top", crowdOf([]int64{2, 9}, []int64{2}), 9, []int64{1, 2}, noAsked(1, nil), false},
		{"No, the top below that", crowdOf([]int64{2, 9}, []int64{2}), 8, []int64{1, 2}, noAsked(1, nil), true},
		{"Unknown", two, 51, all, unknownAsked(0), true},
		{"Unknown, no Station", two, 51, nil, unknownAsked(0), true},
		{"Unknown, the least top there is", two, math.MinInt64, all, unknownAsked(0), true},
		{"Unknown, wrong lists beside it", two, 51, all, impl.AskOut{Verdict: impl.Unknown, Plan: placesOf(9, 9), Lemmas: [][]int64{{0}}, Steps: -9}, true},
		{"Verdict 0", two, 51, []int64{1}, impl.AskOut{Plan: placesOf(1, 2)}, false},
		{"Verdict 4", two, 51, []int64{1}, impl.AskOut{Verdict: 4, Plan: placesOf(1, 2)}, false},
		{"Verdict -1", two, 51, []int64{1}, impl.AskOut{Verdict: -1, Plan: placesOf(1, 2)}, false},
		{"the least Verdict there is", two, 51, all, impl.AskOut{Verdict: math.MinInt64}, false},
		{"the greatest Verdict there is", two, 51, all, impl.AskOut{Verdict: math.MaxInt64}, false},
	} {
		wantAnswer(t, c.what, c.table, c.top, c.ids, c.a, c.want)
		if by := answerByHand(c.table, c.top, c.ids, c.a); by != c.want {
			t.Errorf("%s: by hand %v", c.what, by)
		}
		for _, code := range []int64{-1, impl.ErrForm, impl.ErrSize, impl.ErrSyntax, impl.ErrFull, 11, math.MinInt64, math.MaxInt64} {
			c.a.Code = code
			wantAnswer(t, fmt.Sprint(c.what, ", code ", code), c.table, c.top, c.ids, c.a, false)
		}
	}
}

// askCase: a right table, a top and right ids, with verdicts near and, now and then, far.
func askCase(random *rand.Rand, i int) (impl.Table, int64, []int64) {
	switch {
	case i%8 == 0:
		table := randomTable(random)
		return table, random.Int63n(60), someOf(random, idsByHand(table))
	case i%8 == 1:
		stations := 3 + random.Intn(4)
		table := crowdOn(stations, stations-random.Intn(2))
		for s := range table.Stations {
			domain := table.Stations[s].Domain
			if at := random.Intn(len(domain)); len(domain) > 1 && random.Intn(4) == 0 {
				table.Stations[s].Domain = slices.Delete(domain, at, at+1)
			}
		}
		return table, 51, idsByHand(table)
	}
	table := crowdedTable(random, impl.MaxStations)
	return table, int64(1 + random.Intn(8)), someOf(random, idsByHand(table))
}

// planCase: a right plan of some of the ids, on any channels that are free, and one Id that is not in it.
func planCase(random *rand.Rand, table impl.Table, top int64, ids []int64) ([]impl.Place, int64) {
	plan := []impl.Place(nil)
	left := []int64(nil)
	for _, i := range random.Perm(len(ids)) {
		domain := domainByHand(table, ids[i], top)
		place := impl.Place{Id: ids[i]}
		if len(domain) > 0 {
			place.Channel = domain[random.Intn(len(domain))]
		}
		more := append(slices.Clone(plan), place)
		slices.SortFunc(more, func(x impl.Place, y impl.Place) int { return int(x.Id - y.Id) })
		if faultByHand(table, top, more) == 0 && len(more) < len(ids) {
			plan = more
		} else {
			left = append(left, ids[i])
		}
	}
	return plan, left[random.Intn(len(left))]
}

func TestAskByHand(t *testing.T) {
	t.Parallel()
	random := rand.New(rand.NewSource(11))
	all, one := map[int64]int{}, map[[2]int64]int{}
	for i := range 500 {
		table, top, ids := askCase(random, i)
		what := fmt.Sprint(table, " up to ", top, " of ", ids)
		for _, budget := range []int64{0, 1, 2, random.Int63n(12), random.Int63n(impl.MaxSolve), impl.MaxSolve, impl.MaxSolve + 1} {
			want := allAskedByHand(table, top, ids, budget)
			all[want.Verdict]++
			wantAsked(t, fmt.Sprint(what, " within ", budget), impl.AskAll(table, top, ids, budget), want)
		}
		if len(ids) == 0 {
			continue
		}
		plan, id := planCase(random, table, top, ids)
		for _, budget := range []int64{0, random.Int63n(12), impl.MaxSolve, -1} {
			want := oneAskedByHand(table, top, plan, id, budget)
			one[[2]int64{want.Verdict, want.How}]++
			wantAsked(t, fmt.Sprint(what, " with ", plan, " and ", id, " within ", budget), impl.AskOne(table, top, plan, id, budget), want)
		}
	}
	if all[impl.Yes] < 300 || all[impl.No] < 300 || all[impl.Unknown] < 300 {
		t.Errorf("the answers are all of one kind: %v", all)
	}
	for _, kind := range [][2]int64{{impl.Yes, impl.HowAdd}, {impl.Yes, impl.HowSolve}, {impl.No, impl.HowSolve}, {impl.Unknown, impl.HowSolve}} {
		if one[kind] < 20 {
			t.Errorf("the answers for one Station are all of one kind: %v", one)
		}
	}
}

// AskSteps says the same as AskAll of the same ids within MaxSolve.
func TestAskStepsAreThoseOfAskAll(t *testing.T) {
	t.Parallel()
	random := rand.New(rand.NewSource(1111))
	unknown := 0
	for i := range 1500 {
		table, top, ids := askCase(random, i)
		if i%100 == 1 {
			table = crowdOn(7+random.Intn(3), 6)
			top, ids = 51, idsByHand(table)
		}
		want := int64(-1)
		if out := impl.AskAll(table, top, ids, impl.MaxSolve); out.Verdict != impl.Unknown {
			want = out.Steps
		} else {
			unknown++
		}
		wantSteps(t, fmt.Sprint(table, " up to ", top, " of ", ids), table, top, ids, want)
		if c := impl.SolveCount(impl.CnfOf(table, top, ids), impl.MaxSolve); c != want {
			t.Errorf("%v up to %d of %v: the solver counts %d, AskAll %d", table, top, ids, c, want)
		}
	}
	if unknown < 10 {
		t.Errorf("%d are Unknown", unknown)
	}
}

// budgetsUpTo: those around the steps that a verdict takes, and the greatest.
func budgetsUpTo(steps int64) []int64 {
	list := []int64{0, 1, steps / 2, steps - 1, steps, steps + 1, 2 * steps, impl.MaxSolve - 1, impl.MaxSolve}
	return slices.DeleteFunc(list, func(b int64) bool { return b < 0 || b > impl.MaxSolve })
}

// wantPromise16 holds the answers within each of some budgets, rising, against what can be, and against each other.
func wantPromise16(t *testing.T, what string, table impl.Table, top int64, ids []int64, ask func(int64) impl.AskOut) impl.AskOut {
	t.Helper()
	could := couldHave(table, top, ids, nil)
	whole := ask(impl.MaxSolve)
	budgets := budgetsUpTo(whole.Steps)
	slices.Sort(budgets)
	last := impl.AskOut{Verdict: impl.Unknown}
	for _, budget := range budgets {
		got := ask(budget)
		if !impl.AnswerRight(table, top, ids, got) || !answerByHand(table, top, ids, got) {
			t.Errorf("%.600s: within %d %+v is not right", what, budget, got)
		}
		if got.Verdict == impl.Yes && !could || got.Verdict == impl.No && could {
			t.Errorf("%.600s: within %d the verdict is %d, but a plan could be: %v", what, budget, got.Verdict, could)
		}
		if got.Verdict == impl.Unknown && (got.Steps != budget || len(got.Plan) > 0) || got.Steps > budget {
			t.Errorf("%.600s: within %d got %+v", what, budget, got)
		}
		if last.Verdict != impl.Unknown && !sameAsked(got, last) {
			t.Errorf("%.600s: %+v is turned to %+v within %d", what, last, got, budget)
		}
		last = got
	}
	return whole
}

// Promise 16.
func TestAnswersAreRightAndNotTurnedRound(t *testing.T) {
	t.Parallel()
	random := rand.New(rand.NewSource(16))
	all, one := map[int64]int{}, map[[2]int64]int{}
	for i := range 500 {
		table, top, ids := askCase(random, i)
		what := fmt.Sprint(table, " up to ", top, " of ", ids)
		out := wantPromise16(t, what, table, top, ids, func(budget int64) impl.AskOut {
			return impl.AskAll(table, top, ids, budget)
		})
		all[out.Verdict]++
		if len(ids) == 0 {
			continue
		}
		plan, id := planCase(random, table, top, ids)
		asked := append(impl.PlanIds(plan), id)
		slices.Sort(asked)
		out = wantPromise16(t, fmt.Sprint(what, " with ", plan, " and ", id), table, top, asked, func(budget int64) impl.AskOut {
			return impl.AskOne(table, top, plan, id, budget)
		})
		one[[2]int64{out.Verdict, out.How}]++
		if out.How == impl.HowAdd && (out.Steps != 0 || len(out.Lemmas) > 0 || out.Verdict != impl.Yes) {
			t.Errorf("%.600s: %d is added to %v with %+v", what, id, plan, out)
		}
	}
	for _, table := range []impl.Table{longYes(0), longYes(2), longYes(3), longNo(), crowdOn(6, 5), crowdOn(7, 6), crowdOn(8, 8)} {
		ids := idsByHand(table)
		out := wantPromise16(t, fmt.Sprint(table), table, 51, ids, func(budget int64) impl.AskOut {
			return impl.AskAll(table, 51, ids, budget)
		})
		all[out.Verdict]++
	}
	if all[impl.Yes] < 100 || all[impl.No] < 100 || all[impl.Unknown] < 2 || one[[2]int64{impl.Yes, impl.HowAdd}] < 100 || one[[2]int64{impl.Yes, impl.HowSolve}] < 20 || one[[2]int64{impl.No, impl.HowSolve}] < 100 {
		t.Errorf("the answers are all of one kind: %v, %v", all, one)
	}
}

// Promise 17: who is kept out by a No has no channel in any plan of these Stations, whatever is moved; who is not, has one.
func TestStationKeptOutCouldHaveNoChannel(t *testing.T) {
	t.Parallel()
	random := rand.New(rand.NewSource(17))
	kept, came := 0, 0
	for i := range 2500 {
		table, top, _ := askCase(random, i)
		plan := []impl.Place(nil)
		for _, at := range random.Perm(len(table.Stations)) {
			id := table.Stations[at].Id
			out := impl.AskOne(table, top, plan, id, impl.MaxSolve)
			ids := append(impl.PlanIds(plan), id)
			slices.Sort(ids)
			could := couldHave(table, top, ids, nil)
			what := fmt.Sprint(table, " up to ", top, ": ", id, " to ", plan)
			switch out.Verdict {
			case impl.No:
				kept++
				if could || impl.PlanFind(table, top, ids, impl.MaxBudget).Verdict == impl.Yes {
					t.Errorf("%s: is kept out, but could have a channel", what)
				}
			case impl.Yes:
				came++
				wantPlanFault(t, what, table, top, out.Plan, 0)
				wantNumbers(t, what, impl.PlanIds(out.Plan), ids)
				plan = out.Plan
			default:
				t.Errorf("%s: the verdict is %d", what, out.Verdict)
			}
			if could != (out.Verdict == impl.Yes) {
				t.Errorf("%s: the verdict is %d, but a plan could be: %v", what, out.Verdict, could)
			}
		}
	}
	if kept < 1000 || came < 1000 {
		t.Errorf("%d are kept out, %d came", kept, came)
	}
}

// Promise 17 where all plans are gone through: on few channels no list of them leaves one to who is kept out.
func TestStationKeptOutIsInNoPlan(t *testing.T) {
	random := rand.New(rand.NewSource(1717))
	kept, moved := 0, 0
	for range 600 {
		table := crowdedTable(random, 5)
		top := int64(2 + random.Intn(4))
		plan, id := planCase(random, table, top, idsByHand(table))
		ids := append(impl.PlanIds(plan), id)
		slices.Sort(ids)
		_, could := firstByHand(table, top, ids)
		out := impl.AskOne(table, top, plan, id, impl.MaxSolve)
		if could != (out.Verdict == impl.Yes) || could == (out.Verdict == impl.No) {
			t.Errorf("%v up to %d: %d to %v is told %+v, a plan could be: %v", table, top, id, plan, out, could)
		}
		if out.Verdict == impl.No {
			kept++
		} else if out.How == impl.HowSolve {
			moved++
			if len(impl.PlanAdd(table, top, plan, id)) > 0 {
				t.Errorf("%v up to %d: %d to %v is solved, but could be added", table, top, id, plan)
			}
		}
	}
	if kept < 50 || moved < 20 {
		t.Errorf("%d are kept out, %d have others moved", kept, moved)
	}
}

// keptAsked: a copy that shares no memory.
func keptAsked(a impl.AskOut) impl.AskOut {
	lemmas := [][]int64(nil)
	for _, lemma := range a.Lemmas {
		lemmas = append(lemmas, slices.Clone(lemma))
	}
	a.Plan, a.Lemmas = slices.Clone(a.Plan), lemmas
	return a
}

// changedAnswers: the same answer by one thing another, with what was done to it.
func changedAnswers(a impl.AskOut, table impl.Table) map[string]impl.AskOut {
	all := map[string]impl.AskOut{}
	with := func(what string, change func(*impl.AskOut)) {
		other := keptAsked(a)
		change(&other)
		all[what] = other
	}
	for _, n := range []int64{-1, 0, impl.Yes, impl.No, impl.Unknown, 4, math.MinInt64, math.MaxInt64} {
		with(fmt.Sprint("Verdict ", n), func(o *impl.AskOut) { o.Verdict = n })
		with(fmt.Sprint("How ", n), func(o *impl.AskOut) { o.How = n })
		with(fmt.Sprint("Steps ", n), func(o *impl.AskOut) { o.Steps = n })
		with(fmt.Sprint("Code ", n), func(o *impl.AskOut) { o.Code = n })
	}
	with("no plan", func(o *impl.AskOut) { o.Plan = nil })
	with("no lemmas", func(o *impl.AskOut) { o.Lemmas = nil })
	for i := range a.Plan {
		with(fmt.Sprint("without place ", i), func(o *impl.AskOut) { o.Plan = slices.Delete(o.Plan, i, i+1) })
		with(fmt.Sprint("place twice ", i), func(o *impl.AskOut) { o.Plan = slices.Insert(o.Plan, i, o.Plan[i]) })
		for channel := int64(1); channel < 10; channel++ {
			with(fmt.Sprint("place ", i, " on ", channel), func(o *impl.AskOut) { o.Plan[i].Channel = channel })
		}
		for _, id := range idsAround(table) {
			with(fmt.Sprint("place ", i, " of ", id), func(o *impl.AskOut) { o.Plan[i].Id = id })
		}
	}
	for i, lemma := range a.Lemmas {
		with(fmt.Sprint("cut at ", i), func(o *impl.AskOut) { o.Lemmas = o.Lemmas[:i] })
		with(fmt.Sprint("without lemma ", i), func(o *impl.AskOut) { o.Lemmas = slices.Delete(o.Lemmas, i, i+1) })
		with(fmt.Sprint("turned lemma ", i), func(o *impl.AskOut) { o.Lemmas[i] = minus(lemma) })
		with(fmt.Sprint("empty lemma ", i), func(o *impl.AskOut) { o.Lemmas[i] = nil })
		for j := range lemma {
			with(fmt.Sprint("turned literal ", i, j), func(o *impl.AskOut) { o.Lemmas[i][j] *= -1 })
			with(fmt.Sprint("without literal ", i, j), func(o *impl.AskOut) { o.Lemmas[i] = slices.Delete(o.Lemmas[i], j, j+1) })
			with(fmt.Sprint("literal 0 ", i, j), func(o *impl.AskOut) { o.Lemmas[i][j] = 0 })
		}
	}
	with("lemmas the other way round", func(o *impl.AskOut) { slices.Reverse(o.Lemmas) })
	with("plan the other way round", func(o *impl.AskOut) { slices.Reverse(o.Plan) })
	return all
}

func TestAnswerThatIsChanged(t *testing.T) {
	t.Parallel()
	random := rand.New(rand.NewSource(12))
	counts := map[[2]any]int{}
	for i := range 80 {
		table, top, ids := askCase(random, i)
		budget := int64(impl.MaxSolve)
		if i%5 == 0 {
			budget = random.Int63n(6)
		}
		a := impl.AskAll(table, top, ids, budget)
		if len(a.Lemmas) > 40 {
			continue
		}
		wantAnswer(t, "as it is told", table, top, ids, a, true)
		for what, other := range changedAnswers(a, table) {
			want := answerByHand(table, top, ids, other)
			counts[[2]any{a.Verdict, want}]++
			wantAnswer(t, fmt.Sprint(table, " up to ", top, " of ", ids, ": ", what), table, top, ids, other, want)
		}
		// Another top, other ids, another table.
		for other := top - 2; other <= top+2; other++ {
			wantAnswer(t, fmt.Sprint(table, " up to ", other, " of ", ids), table, other, ids, a, answerByHand(table, other, ids, a))
		}
		for range 10 {
			some := someOf(random, idsByHand(table))
			wantAnswer(t, fmt.Sprint(table, " up to ", top, " of ", some), table, top, some, a, answerByHand(table, top, some, a))
		}
		if len(table.Pairs) > 0 {
			fewer := tableKept(table)
			fewer.Pairs = fewer.Pairs[1:]
			wantAnswer(t, fmt.Sprint(fewer, " up to ", top, " of ", ids), fewer, top, ids, a, answerByHand(fewer, top, ids, a))
			kinds := tableKept(table)
			kinds.Pairs[0].Kind = 3 - kinds.Pairs[0].Kind
			wantAnswer(t, fmt.Sprint(kinds, " up to ", top, " of ", ids), kinds, top, ids, a, answerByHand(kinds, top, ids, a))
			kinds.Pairs[0].Kind = 3
			wantAnswer(t, "a table that is not right", kinds, top, ids, a, false)
		}
	}
	for _, verdict := range []int64{impl.Yes, impl.No, impl.Unknown} {
		if counts[[2]any{verdict, true}] < 50 || counts[[2]any{verdict, false}] < 50 {
			t.Errorf("the answers are all of one kind: %v", counts)
		}
	}
}

// Each right plan of just these Stations is a right answer, and no other one.
func TestEachPlanIsAnAnswer(t *testing.T) {
	table := fourStations()
	for _, ids := range [][]int64{{3}, {3, 8}, {3, 20}, {3, 8, 20}} {
		for _, top := range []int64{4, 6, 9} {
			right := 0
			for _, a := range channels(2, 9) {
				for _, b := range channels(2, 9) {
					for _, c := range channels(2, 9) {
						plan := []impl.Place(nil)
						for i, channel := range []int64{a, b, c}[:len(ids)] {
							plan = append(plan, impl.Place{Id: ids[i], Channel: channel})
						}
						is := faultByHand(table, top, plan) == 0
						if is {
							right++
						}
						wantAnswer(t, fmt.Sprint(ids, " up to ", top), table, top, ids, yesAsked(1, plan), is)
					}
				}
			}
			if could := couldHave(table, top, ids, nil); could != (right > 0) {
				t.Errorf("%v up to %d: %d plans, one could be: %v", ids, top, right, could)
			}
		}
	}
}

func TestAskKeepsNothing(t *testing.T) {
	random := rand.New(rand.NewSource(13))
	crowd, tight := crowdOn(4, 3), crowdOf([]int64{2, 3}, []int64{2, 4}, []int64{2, 4})
	ids := []int64{1, 2, 3, 4}
	whole, few := impl.AskAll(crowd, 51, ids, impl.MaxSolve), impl.AskAll(crowd, 51, ids, 5)
	moved := impl.AskOne(tight, 51, placesOf(1, 2, 2, 4), 3, impl.MaxSolve)
	longer := impl.AskOne(tight, 51, placesOf(1, 2), 2, 0)
	for i := range 200 {
		table, top, some := askCase(random, i)
		impl.AskAll(table, top, some, random.Int63n(impl.MaxSolve+3)-1)
		impl.AskOne(table, top, nil, table.Stations[0].Id, 10)
		impl.AskOne(table, top, placesOf(0, 0), 5, 10)
		impl.AnswerRight(table, top, some, whole)
		impl.AskSteps(table, top, some)
		wantAsked(t, "again", impl.AskAll(crowd, 51, ids, impl.MaxSolve), whole)
		wantAsked(t, "again", impl.AskAll(crowd, 51, ids, 5), few)
		wantAsked(t, "again", impl.AskOne(tight, 51, placesOf(1, 2, 2, 4), 3, impl.MaxSolve), moved)
		wantAsked(t, "again", impl.AskOne(tight, 51, placesOf(1, 2), 2, 0), longer)
		wantAnswer(t, "again", crowd, 51, ids, whole, true)
		wantSteps(t, "again", crowd, 51, ids, 11)
	}
}

// wantApart spoils the lists of two answers alike, in one order and in the other: none changes with another one.
func wantApart(t *testing.T, what string, first impl.AskOut, second impl.AskOut) {
	t.Helper()
	want := keptAsked(first)
	spoilsApart(t, what, first.Lemmas, want.Lemmas)
	wantPlaces(t, what+", the plan behind lemmas that are spoiled", first.Plan, want.Plan)
	spoilPlaces(first.Plan)
	spoilPlaces(second.Plan)
	if !slices.EqualFunc(second.Lemmas, want.Lemmas, slices.Equal[[]int64]) {
		t.Errorf("%.600s: lemmas are changed with the plan, or with another answer", what)
	}
	slices.Reverse(second.Lemmas)
	slices.Reverse(want.Lemmas)
	spoilsApart(t, what, second.Lemmas, want.Lemmas)
	clear(second.Lemmas[:cap(second.Lemmas)])
}

func TestAskChangesAndSharesNothing(t *testing.T) {
	t.Parallel()
	random := rand.New(rand.NewSource(1100))
	lemmas := map[int64]int{}
	for i := range 500 {
		table, top, ids := askCase(random, i)
		table, ids = spacious(table), roomyIds(ids)
		tableBefore, idsBefore := beyond(table), slices.Clone(ids[:cap(ids)])
		plan, id := []impl.Place(nil), table.Stations[0].Id
		if len(ids) > 0 {
			plan, id = planCase(random, table, top, ids)
		}
		plan = roomyPlan(plan)
		planBefore := slices.Clone(plan[:cap(plan)])
		what := fmt.Sprint(table, " up to ", top, " of ", ids, " with ", plan, " and ", id)
		for _, budget := range []int64{impl.MaxSolve, 6} {
			for _, ask := range []func() impl.AskOut{
				func() impl.AskOut { return impl.AskAll(table, top, ids, budget) },
				func() impl.AskOut { return impl.AskOne(table, top, plan, id, budget) },
			} {
				first, second, third := ask(), ask(), ask()
				want := keptAsked(third)
				if len(want.Lemmas) > 1 {
					lemmas[want.Verdict]++
				}
				wantApart(t, what, first, second)
				wantAsked(t, what, third, want)
				wantAsked(t, what+", again", ask(), want)
				// An answer that is asked for is not changed, either.
				impl.AnswerRight(table, top, ids, third)
				wantAsked(t, what+", looked at", third, want)
			}
		}
		impl.AskSteps(table, top, ids)
		if !tablesAlike(beyond(table), tableBefore) || !slices.Equal(ids[:cap(ids)], idsBefore) || !slices.Equal(plan[:cap(plan)], planBefore) {
			t.Errorf("%.600s: what was handed in is changed, or an answer shares its memory", what)
		}
	}
	if lemmas[impl.Yes] < 5 || lemmas[impl.No] < 20 || lemmas[impl.Unknown] < 5 {
		t.Errorf("few answers have lemmas: %v", lemmas)
	}
}

// What was handed in may change behind an answer, which stays as it is.
func TestAskedStaysAsItIs(t *testing.T) {
	random := rand.New(rand.NewSource(1101))
	for i := range 300 {
		table, top, ids := askCase(random, i)
		if len(ids) == 0 {
			continue
		}
		table, ids = tableKept(table), slices.Clone(ids)
		plan, id := planCase(random, table, top, ids)
		all, one := impl.AskAll(table, top, ids, impl.MaxSolve), impl.AskOne(table, top, plan, id, impl.MaxSolve)
		allBefore, oneBefore := keptAsked(all), keptAsked(one)
		spoilNumbers(ids)
		spoilPlaces(plan)
		for _, s := range table.Stations {
			spoilNumbers(s.Domain)
		}
		clear(table.Stations)
		clear(table.Pairs)
		wantAsked(t, "all", all, allBefore)
		wantAsked(t, "one", one, oneBefore)
	}
}

// Stations at each limit: as many as there may be, of as many channels, in as many Pairs.
func TestAskOfTheMostThereIs(t *testing.T) {
	t.Parallel()
	table := impl.Table{Stations: stationsOf(impl.MaxStations), Pairs: pairsOf(impl.MaxStations, impl.MaxPairs)}
	for i := range table.Stations {
		table.Stations[i].Domain = channels(2, impl.MaxDomain)
	}
	for i := range table.Pairs {
		table.Pairs[i].Kind = impl.PairBeside
	}
	ids := idsByHand(table)
	got := impl.AskAll(table, 51, ids, impl.MaxSolve)
	wantAsked(t, "the most there is", got, allAskedByHand(table, 51, ids, impl.MaxSolve))
	wantAnswer(t, "the most there is", table, 51, ids, got, true)
	last := longestTable()
	got = impl.AskAll(last, 51, idsByHand(last), impl.MaxSolve)
	wantAsked(t, "the greatest numbers", got, allAskedByHand(last, 51, idsByHand(last), impl.MaxSolve))
	wantAnswer(t, "the greatest numbers", last, 51, idsByHand(last), got, true)
}
