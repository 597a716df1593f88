package tests

import (
	"fmt"
	"math"
	"math/rand"
	"slices"
	"testing"

	"loop.example/g00144/impl"
)

func topsByHand(tops []int64) bool {
	if len(tops) < 1 || len(tops) > 6 {
		return false
	}
	for i, top := range tops {
		if top < 2 || top > 51 || i > 0 && tops[i-1] >= top {
			return false
		}
	}
	return true
}

func fromNoughtByHand(v int64) bool {
	return v >= 0 && v <= 1000000000000
}

// stageRightByHand: what StageRight is to tell.
func stageRightByHand(s impl.Stage) bool {
	if !clockRightByHand(s.Clock) || !topsByHand(s.Tops) || !fromNoughtByHand(s.Fixed) || s.Closed && s.Failed {
		return false
	}
	for _, b := range s.Clock.Bids {
		if s.Closed && b.State != 3 && b.State != 4 || !s.Closed && b.State == 4 {
			return false
		}
	}
	for at, top := range s.Tops {
		if int64(at) == s.At {
			return top == s.Clock.Top
		}
	}
	return false
}

// stageOpenByHand: what StageOpen is to tell.
func stageOpenByHand(table impl.Table, tops []int64, price int64, step int64, budget int64, must []int64, fixed int64) impl.StageOut {
	if len(tops) > impl.MaxList || len(must) > impl.MaxList {
		return refusedStage(impl.ErrSize)
	}
	if !topsByHand(tops) || !fromNoughtByHand(fixed) {
		return refusedStage(impl.ErrForm)
	}
	out := clockOpenByHand(table, tops[0], price, step, budget, must)
	if out.Code != impl.OK {
		return refusedStage(out.Code)
	}
	return impl.StageOut{Stage: impl.Stage{Clock: out.Clock, Tops: tops, Fixed: fixed}}
}

// stageRoundByHand: what StageRound is to tell.
func stageRoundByHand(s impl.Stage, stays []int64) impl.StageOut {
	if len(stays) > impl.MaxList {
		return refusedStage(impl.ErrSize)
	}
	if !stageRightByHand(s) {
		return refusedStage(impl.ErrForm)
	}
	if s.Closed || s.Failed {
		return refusedStage(impl.ErrState)
	}
	out := roundByHand(s.Clock, stays)
	if out.Code != impl.OK {
		return refusedStage(out.Code)
	}
	s.Clock = out.Clock
	return impl.StageOut{Stage: s}
}

// needsByHand: what StageNeeds is to tell.
func needsByHand(s impl.Stage) int64 {
	if !stageRightByHand(s) {
		return -1
	}
	return totalByHand(s.Clock) + s.Fixed
}

// closeByHand: what StageClose is to tell.
func closeByHand(s impl.Stage, proceeds int64) impl.StageOut {
	if !stageRightByHand(s) || !fromNoughtByHand(proceeds) {
		return refusedStage(impl.ErrForm)
	}
	if s.Closed || s.Failed || len(activeByHand(s.Clock)) > 0 {
		return refusedStage(impl.ErrState)
	}
	needs := needsByHand(s)
	s = keptStage(s)
	bids := s.Clock.Bids
	if proceeds < needs && int(s.At)+1 == len(s.Tops) {
		s.Failed = true
		return impl.StageOut{Stage: s}
	}
	if proceeds < needs {
		s.At++
		s.Clock.Top = s.Tops[s.At]
	} else {
		s.Closed = true
	}
	for i, b := range bids {
		if b.State == impl.BidFrozen && s.Closed {
			bids[i].State = impl.BidWon
		}
		if b.State == impl.BidFrozen && !s.Closed && oneAskedByHand(s.Clock.Table, s.Clock.Top, s.Clock.Plan, b.Id, s.Clock.Budget).Verdict == impl.Yes {
			bids[i].State = impl.BidActive
		}
	}
	return impl.StageOut{Stage: s}
}

// paysByHand: what StagePays is to tell.
func paysByHand(s impl.Stage) []impl.Pay {
	pays := []impl.Pay(nil)
	for _, b := range s.Clock.Bids {
		if b.State != impl.BidOut && s.Closed && stageRightByHand(s) {
			pays = append(pays, impl.Pay{Id: b.Id, Price: b.Price})
		}
	}
	return pays
}

func refusedStage(code int64) impl.StageOut {
	return impl.StageOut{Code: code}
}

// keptStage: a copy that shares no memory.
func keptStage(s impl.Stage) impl.Stage {
	s.Clock, s.Tops = keptClock(s.Clock), slices.Clone(s.Tops)
	return s
}

func keptStageOut(out impl.StageOut) impl.StageOut {
	out.Stage = keptStage(out.Stage)
	return out
}

func stagesAlike(a impl.Stage, b impl.Stage) bool {
	return clocksAlike(a.Clock, b.Clock) && slices.Equal(a.Tops, b.Tops) && a.At == b.At && a.Fixed == b.Fixed && a.Closed == b.Closed && a.Failed == b.Failed
}

// wantStage: an empty list and none are the same.
func wantStage(t *testing.T, what string, got impl.StageOut, want impl.StageOut) {
	t.Helper()
	if !stagesAlike(got.Stage, want.Stage) || got.Code != want.Code {
		t.Errorf("%.900s: got %+v, want %+v", what, got, want)
	}
}

func wantPays(t *testing.T, what string, got []impl.Pay, want []impl.Pay) {
	t.Helper()
	if !slices.Equal(got, want) {
		t.Errorf("%.900s: paid is %v, want %v", what, got, want)
	}
}

// wantStageTold: what is told of a stage, as by hand.
func wantStageTold(t *testing.T, what string, s impl.Stage) {
	t.Helper()
	if got, want := impl.StageRight(s), stageRightByHand(s); got != want {
		t.Errorf("%.900s: right is told as %v", what, got)
	}
	if got, want := impl.StageNeeds(s), needsByHand(s); got != want {
		t.Errorf("%.900s: it needs %d, want %d", what, got, want)
	}
	wantPays(t, what, impl.StagePays(s), paysByHand(s))
}

// wantClosed: what becomes of a stage with these proceeds, and that it is right.
func wantClosed(t *testing.T, what string, s impl.Stage, proceeds int64, want impl.StageOut) {
	t.Helper()
	wantStage(t, what, impl.StageClose(s, proceeds), want)
	wantStage(t, what+", by hand", closeByHand(s, proceeds), want)
	if told := impl.StageRight(want.Stage); told != (want.Code == impl.OK) {
		t.Errorf("%.900s: what comes of it is told to be right: %v", what, told)
	}
}

// fourStage: the clock of fourClock has ended at the first of four tops; 8 could have 3 there, 20 and 21 have nothing up to 5; it needs 100.
func fourStage() impl.Stage {
	c := withClock(func(c *impl.Clock) { c.Top, c.Bids = 4, bidsOf(3, 3, 0, 8, 2, 20, 20, 2, 30, 21, 2, 40) })
	return impl.Stage{Clock: c, Tops: []int64{4, 5, 6, 51}, Fixed: 10}
}

// withStage: fourStage, but changed.
func withStage(change func(s *impl.Stage)) impl.Stage {
	s := fourStage()
	change(&s)
	return s
}

// inState: the Bids of s, each that is not out in this State.
func inState(s impl.Stage, state int64) []impl.Bid {
	bids := slices.Clone(s.Clock.Bids)
	for i := range bids {
		if bids[i].State != impl.BidOut {
			bids[i].State = state
		}
	}
	return bids
}

// closedStage: fourStage, Closed.
func closedStage() impl.Stage {
	return withStage(func(s *impl.Stage) { s.Closed, s.Clock.Bids = true, inState(*s, impl.BidWon) })
}

// failedStage: fourStage at its last top, Failed.
func failedStage() impl.Stage {
	return withStage(func(s *impl.Stage) { s.Failed, s.At, s.Clock.Top = true, 3, 51 })
}

// biddingStage: fourStage, with all active again.
func biddingStage() impl.Stage {
	return withStage(func(s *impl.Stage) { s.Clock.Bids = inState(*s, impl.BidActive) })
}

// outStage: all of the four are out.
func outStage() impl.Stage {
	return withStage(func(s *impl.Stage) {
		s.Clock, s.At = rightClocks()["all out"], 2
		s.Clock.Top = 6
	})
}

// rightStages: ordinary ones and those at the edges of what is right.
func rightStages() map[string]impl.Stage {
	return map[string]impl.Stage{
		"ended":                      fourStage(),
		"bidding":                    biddingStage(),
		"closed":                     closedStage(),
		"failed":                     failedStage(),
		"failed ahead of its last":   withStage(func(s *impl.Stage) { s.Failed = true }),
		"failed with active ones":    withStage(func(s *impl.Stage) { s.Failed, s.Clock.Bids = true, biddingStage().Clock.Bids }),
		"all out":                    outStage(),
		"all out, closed":            withStage(func(s *impl.Stage) { *s = outStage(); s.Closed = true }),
		"all out, failed":            withStage(func(s *impl.Stage) { *s = outStage(); s.Failed = true }),
		"one active, one frozen":     withStage(func(s *impl.Stage) { s.Clock.Bids[2].State = impl.BidActive }),
		"one top":                    withStage(func(s *impl.Stage) { s.Tops = s.Tops[:1] }),
		"MaxTops tops":               withStage(func(s *impl.Stage) { s.Tops = []int64{4, 5, 6, 7, 8, 9} }),
		"tops from LowChannel":       withStage(func(s *impl.Stage) { s.Tops, s.At = []int64{2, 4}, 1 }),
		"tops up to HighChannel":     withStage(func(s *impl.Stage) { s.Tops = []int64{4, 51} }),
		"both at once, side by side": withStage(func(s *impl.Stage) { s.Tops, s.At = []int64{2, 3, 4, 49, 50, 51}, 2 }),
		"at the last place":          withStage(func(s *impl.Stage) { s.At, s.Clock.Top = 3, 51 }),
		"Fixed 0":                    withStage(func(s *impl.Stage) { s.Fixed = 0 }),
		"Fixed 1":                    withStage(func(s *impl.Stage) { s.Fixed = 1 }),
		"Fixed MaxMoney":             withStage(func(s *impl.Stage) { s.Fixed = impl.MaxMoney }),
		"Prices of 0":                withStage(func(s *impl.Stage) { s.Clock.Bids = bidsOf(3, 3, 0, 8, 2, 0, 20, 2, 0, 21, 2, 0) }),
		"out at a Price":             withStage(func(s *impl.Stage) { s.Clock.Bids[0].Price = 77 }),
		"out at a Price, closed":     withStage(func(s *impl.Stage) { *s = closedStage(); s.Clock.Bids[0].Price = 77 }),
		"nobody out":                 withStage(func(s *impl.Stage) { s.Clock.Bids[0].State, s.Clock.Plan = impl.BidFrozen, nil }),
		"nobody out, closed": withStage(func(s *impl.Stage) {
			s.Clock.Bids[0].State, s.Clock.Plan = impl.BidFrozen, nil
			s.Closed, s.Clock.Bids = true, inState(*s, impl.BidWon)
		}),
	}
}

// wrongStages: stages that are not right, each by one thing alone.
func wrongStages() map[string]impl.Stage {
	all := map[string]impl.Stage{
		"nothing":                   {},
		"no Tops":                   withStage(func(s *impl.Stage) { s.Tops = nil }),
		"empty Tops":                withStage(func(s *impl.Stage) { s.Tops = []int64{} }),
		"a top more than MaxTops":   withStage(func(s *impl.Stage) { s.Tops = []int64{4, 5, 6, 7, 8, 9, 10} }),
		"more than MaxList Tops":    withStage(func(s *impl.Stage) { s.Tops = channels(4, impl.MaxList+1) }),
		"two tops alike":            withStage(func(s *impl.Stage) { s.Tops = []int64{4, 5, 5, 6} }),
		"the last tops alike":       withStage(func(s *impl.Stage) { s.Tops = []int64{4, 51, 51} }),
		"tops that fall":            withStage(func(s *impl.Stage) { s.Tops = []int64{4, 3} }),
		"tops that fall and rise":   withStage(func(s *impl.Stage) { s.Tops = []int64{4, 9, 8, 10} }),
		"a top below LowChannel":    withStage(func(s *impl.Stage) { s.Tops, s.At = []int64{1, 4}, 1 }),
		"a top below 0":             withStage(func(s *impl.Stage) { s.Tops, s.At = []int64{-4, 4}, 1 }),
		"a top above HighChannel":   withStage(func(s *impl.Stage) { s.Tops = []int64{4, 52} }),
		"the least top":             withStage(func(s *impl.Stage) { s.Tops, s.At = []int64{math.MinInt64, 4}, 1 }),
		"the greatest top":          withStage(func(s *impl.Stage) { s.Tops = []int64{4, math.MaxInt64} }),
		"Top is not the one at At":  withStage(func(s *impl.Stage) { s.Clock.Top = 5 }),
		"Top is the one ahead":      withStage(func(s *impl.Stage) { s.At = 1 }),
		"Top is the one behind":     withStage(func(s *impl.Stage) { s.At, s.Clock.Top = 2, 51 }),
		"Top is none of them":       withStage(func(s *impl.Stage) { s.Clock.Top = 7 }),
		"Closed and Failed":         withStage(func(s *impl.Stage) { *s = closedStage(); s.Failed = true }),
		"both, and all out":         withStage(func(s *impl.Stage) { *s = outStage(); s.Closed, s.Failed = true, true }),
		"Closed, and all frozen":    withStage(func(s *impl.Stage) { s.Closed = true }),
		"Closed, and all active":    withStage(func(s *impl.Stage) { *s = biddingStage(); s.Closed = true }),
		"won, and not Closed":       withStage(func(s *impl.Stage) { s.Clock.Bids[1].State = impl.BidWon }),
		"all won, and not Closed":   withStage(func(s *impl.Stage) { *s = closedStage(); s.Closed = false }),
		"won, and Failed":           withStage(func(s *impl.Stage) { *s = failedStage(); s.Clock.Bids[3].State = impl.BidWon }),
		"all won, and Failed":       withStage(func(s *impl.Stage) { *s = closedStage(); s.Closed, s.Failed = false, true }),
		"a frozen one while Closed": withStage(func(s *impl.Stage) { *s = closedStage(); s.Clock.Bids[3].State = impl.BidFrozen }),
		"an active one, Closed":     withStage(func(s *impl.Stage) { *s = closedStage(); s.Clock.Bids[1].State = impl.BidActive }),
		"won beside active ones":    withStage(func(s *impl.Stage) { *s = biddingStage(); s.Clock.Bids[2].State = impl.BidWon }),
	}
	for _, n := range []int64{-1, -2, 4, 5, 1000, 4294967296, math.MinInt64, math.MaxInt64} {
		all[fmt.Sprint("At ", n)] = withStage(func(s *impl.Stage) { s.At = n })
		all[fmt.Sprint("At ", n, ", of one top")] = withStage(func(s *impl.Stage) { s.Tops, s.At = []int64{4}, n })
	}
	for _, n := range []int64{-1, -impl.MaxMoney, impl.MaxMoney + 1, math.MinInt64, math.MaxInt64} {
		all[fmt.Sprint("Fixed ", n)] = withStage(func(s *impl.Stage) { s.Fixed = n })
		all[fmt.Sprint("Fixed ", n, ", Closed")] = withStage(func(s *impl.Stage) { *s = closedStage(); s.Fixed = n })
	}
	for what, c := range wrongClocks() {
		all["Clock: "+what] = impl.Stage{Clock: c, Tops: []int64{c.Top}}
	}
	return all
}

func TestStageRightAtItsEdges(t *testing.T) {
	for what, s := range rightStages() {
		if !impl.StageRight(s) || !stageRightByHand(s) {
			t.Errorf("%s: is told not to be right", what)
		}
		wantStageTold(t, what, s)
	}
	for what, s := range wrongStages() {
		if impl.StageRight(s) || stageRightByHand(s) {
			t.Errorf("%s: is told to be right", what)
		}
	}
}

// A stage that is not right: each call says so, whatever else it is given, but for a list that is too long.
func TestWrongStagesAreRefused(t *testing.T) {
	form, size := refusedStage(impl.ErrForm), refusedStage(impl.ErrSize)
	for what, s := range wrongStages() {
		if got := impl.StageNeeds(s); got != -1 {
			t.Errorf("%s: it needs %d", what, got)
		}
		wantPays(t, what, impl.StagePays(s), nil)
		for _, proceeds := range []int64{math.MinInt64, -1, 0, 99, 100, impl.MaxMoney, impl.MaxMoney + 1, math.MaxInt64} {
			wantStage(t, what, impl.StageClose(s, proceeds), form)
		}
		for _, stays := range [][]int64{nil, {}, {3}, {8, 20}, {20, 8}, {0}} {
			wantStage(t, what, impl.StageRound(s, stays), form)
		}
		wantStage(t, what, impl.StageRound(s, make([]int64, impl.MaxList)), form)
		wantStage(t, what, impl.StageRound(s, make([]int64, impl.MaxList+1)), size)
	}
}

func TestStageOpenAtItsEdges(t *testing.T) {
	four := fourStations()
	opened := func(tops []int64, fixed int64, bids []impl.Bid, plan []impl.Place) impl.StageOut {
		c := impl.Clock{Table: four, Top: tops[0], Price: 10, Step: 4, Budget: 100, Bids: bids, Plan: plan}
		return impl.StageOut{Stage: impl.Stage{Clock: c, Tops: tops, Fixed: fixed}}
	}
	form := refusedStage(impl.ErrForm)
	three := bidsOf(3, 3, 0, 8, 1, 20, 20, 1, 30, 21, 1, 40)
	active := bidsOf(3, 1, 10, 8, 1, 20, 20, 1, 30, 21, 1, 40)
	for _, c := range []struct {
		what  string
		tops  []int64
		must  []int64
		fixed int64
		want  impl.StageOut
	}{
		{"one must stay", []int64{4, 6}, []int64{3}, 10, opened([]int64{4, 6}, 10, three, placesOf(3, 4))},
		{"nobody must stay", []int64{4, 6}, nil, 10, opened([]int64{4, 6}, 10, active, nil)},
		{"one top", []int64{4}, []int64{3}, 10, opened([]int64{4}, 10, three, placesOf(3, 4))},
		{"MaxTops tops", []int64{4, 5, 6, 7, 8, 9}, []int64{3}, 10, opened([]int64{4, 5, 6, 7, 8, 9}, 10, three, placesOf(3, 4))},
		{"one more", []int64{4, 5, 6, 7, 8, 9, 10}, []int64{3}, 10, form},
		{"no tops", nil, []int64{3}, 10, form},
		{"empty tops", []int64{}, []int64{3}, 10, form},
		{"all tops there are", channels(2, 50), nil, 10, form},
		{"LowChannel and HighChannel", []int64{2, 51}, nil, 10, opened([]int64{2, 51}, 10, active, nil)},
		{"HighChannel alone", []int64{51}, []int64{21}, 10, opened([]int64{51}, 10, bidsOf(3, 1, 10, 8, 1, 20, 20, 1, 30, 21, 3, 0), placesOf(21, 6))},
		{"below LowChannel", []int64{1, 4}, nil, 10, form},
		{"below 0", []int64{-4}, nil, 10, form},
		{"above HighChannel", []int64{4, 52}, nil, 10, form},
		{"two alike", []int64{4, 4}, nil, 10, form},
		{"not rising", []int64{6, 4}, nil, 10, form},
		{"not rising behind others", []int64{4, 5, 9, 8}, nil, 10, form},
		{"the least and the greatest", []int64{math.MinInt64, math.MaxInt64}, nil, 10, form},
		{"Fixed 0", []int64{4, 6}, []int64{3}, 0, opened([]int64{4, 6}, 0, three, placesOf(3, 4))},
		{"Fixed MaxMoney", []int64{4, 6}, []int64{3}, impl.MaxMoney, opened([]int64{4, 6}, impl.MaxMoney, three, placesOf(3, 4))},
		{"Fixed of one more", []int64{4, 6}, []int64{3}, impl.MaxMoney + 1, form},
		{"Fixed below 0", []int64{4, 6}, []int64{3}, -1, form},
		{"the least Fixed", []int64{4, 6}, []int64{3}, math.MinInt64, form},
		{"the greatest Fixed", []int64{4, 6}, []int64{3}, math.MaxInt64, form},
		{"must that could have channels at a later top", []int64{5, 6}, []int64{3, 20}, 10, refusedStage(impl.ErrInfeasible)},
		{"must that has channels at the first", []int64{6, 7}, []int64{3, 20}, 10, opened([]int64{6, 7}, 10, bidsOf(3, 3, 0, 8, 1, 20, 20, 3, 0, 21, 1, 40), placesOf(3, 4, 20, 6))},
		{"no plan, and wrong tops", []int64{5, 5}, []int64{3, 20}, 10, form},
		{"no plan, and a wrong Fixed", []int64{5, 6}, []int64{3, 20}, -1, form},
		{"a wrong must", []int64{4, 6}, []int64{4}, 10, form},
		{"must that falls", []int64{4, 6}, []int64{8, 3}, 10, form},
		{"must twice", []int64{4, 6}, []int64{3, 3}, 10, form},
	} {
		wantStage(t, c.what, impl.StageOpen(four, c.tops, 10, 4, 100, c.must, c.fixed), c.want)
		wantStage(t, c.what+", by hand", stageOpenByHand(four, c.tops, 10, 4, 100, c.must, c.fixed), c.want)
		if told := impl.StageRight(c.want.Stage); told != (c.want.Code == impl.OK) {
			t.Errorf("%s: what is opened is told to be right: %v", c.what, told)
		}
	}
}

// What is no thing of tops and Fixed is told as ClockOpen tells it.
func TestStageOpenIsAsClockOpen(t *testing.T) {
	four := fourStations()
	numbers := []int64{math.MinInt64, -1, 0, 1, 10, 1000000, 1000001, math.MaxInt64}
	wantAsClock := func(table impl.Table, price int64, step int64, budget int64, must []int64) {
		t.Helper()
		clock := impl.ClockOpen(table, 5, price, step, budget, must)
		want := impl.StageOut{Code: clock.Code}
		if clock.Code == impl.OK {
			want.Stage = impl.Stage{Clock: clock.Clock, Tops: []int64{5, 9}, Fixed: 10}
		}
		what := fmt.Sprint(table, " at ", price, " by ", step, " within ", budget, " must ", must)
		wantStage(t, what, impl.StageOpen(table, []int64{5, 9}, price, step, budget, must, 10), want)
	}
	for _, must := range [][]int64{nil, {3}, {3, 20}, {3, 4}, {0}, channels(1, impl.MaxList), channels(1, impl.MaxList+1)} {
		for _, n := range numbers {
			for _, m := range numbers {
				wantAsClock(four, n, m, 100, must)
			}
		}
		for _, budget := range someBudgets() {
			wantAsClock(four, 10, 4, budget, must)
		}
	}
	for _, table := range wrongTables() {
		wantAsClock(table, 10, 4, 100, nil)
		wantAsClock(table, 10, 4, 100, channels(1, impl.MaxList+1))
	}
}

func TestStageOpenOfListsThatAreTooLong(t *testing.T) {
	four := fourStations()
	form, size := refusedStage(impl.ErrForm), refusedStage(impl.ErrSize)
	long, most := make([]int64, impl.MaxList+1), make([]int64, impl.MaxList)
	wantStage(t, "tops of MaxList", impl.StageOpen(four, most, 10, 4, 100, nil, 10), form)
	wantStage(t, "tops of one more", impl.StageOpen(four, long, 10, 4, 100, nil, 10), size)
	wantStage(t, "must of MaxList", impl.StageOpen(four, []int64{4}, 10, 4, 100, most, 10), form)
	wantStage(t, "must of one more", impl.StageOpen(four, []int64{4}, 10, 4, 100, long, 10), size)
	// Ahead of all else.
	wantStage(t, "tops of one more, a wrong Fixed", impl.StageOpen(four, long, 10, 4, 100, nil, -1), size)
	wantStage(t, "tops of one more, nothing right", impl.StageOpen(impl.Table{}, long, -1, 0, -1, []int64{0}, -1), size)
	wantStage(t, "must of one more, no tops", impl.StageOpen(four, nil, 10, 4, 100, long, 10), size)
	wantStage(t, "must of one more, a wrong Fixed", impl.StageOpen(four, []int64{4}, 10, 4, 100, long, -1), size)
	wantStage(t, "both", impl.StageOpen(four, long, 10, 4, 100, long, 10), size)
}

func TestStageRoundAtItsEdges(t *testing.T) {
	bidding := biddingStage()
	next := func(price int64, bids []impl.Bid, plan []impl.Place) impl.StageOut {
		s := biddingStage()
		s.Clock.Price, s.Clock.Bids, s.Clock.Plan = price, bids, plan
		return impl.StageOut{Stage: s}
	}
	form, state, size := refusedStage(impl.ErrForm), refusedStage(impl.ErrState), refusedStage(impl.ErrSize)
	long := make([]int64, impl.MaxList+1)
	for _, c := range []struct {
		what  string
		stage impl.Stage
		stays []int64
		want  impl.StageOut
	}{
		{"all stay", bidding, []int64{8, 20, 21}, next(6, bidsOf(3, 3, 0, 8, 1, 12, 20, 2, 30, 21, 2, 40), placesOf(3, 4))},
		{"nobody stays", bidding, nil, next(6, bidsOf(3, 3, 0, 8, 3, 0, 20, 2, 30, 21, 2, 40), placesOf(3, 4, 8, 3))},
		{"wrong stays", bidding, []int64{4}, form},
		{"stays that fall", bidding, []int64{20, 8}, form},
		{"MaxList stays", bidding, make([]int64, impl.MaxList), form},
		{"one more", bidding, long, size},
		{"ended", fourStage(), nil, state},
		{"ended, all stay", fourStage(), []int64{8, 20, 21}, state},
		// The stays are a thing of the clock's round, which comes only where the stage is neither Closed nor Failed.
		{"ended, wrong stays", fourStage(), []int64{4}, form},
		{"ended, one more than MaxList", fourStage(), long, size},
		{"closed", closedStage(), nil, state},
		{"closed, wrong stays", closedStage(), []int64{4}, state},
		{"closed, one more than MaxList", closedStage(), long, size},
		{"failed", failedStage(), nil, state},
		{"failed, wrong stays", failedStage(), []int64{20, 8}, state},
		{"failed with active ones", rightStages()["failed with active ones"], []int64{8}, state},
		{"failed with active ones, wrong stays", rightStages()["failed with active ones"], []int64{0}, state},
		{"failed, one more than MaxList", failedStage(), long, size},
		{"all out", outStage(), nil, state},
		{"all out, wrong stays", outStage(), []int64{3, 3}, form},
		{"all out, closed", rightStages()["all out, closed"], []int64{3, 3}, state},
	} {
		wantStage(t, c.what, impl.StageRound(c.stage, c.stays), c.want)
		wantStage(t, c.what+", by hand", stageRoundByHand(c.stage, c.stays), c.want)
	}
}

func TestStageCloseAtItsEdges(t *testing.T) {
	four, state, form := fourStage(), refusedStage(impl.ErrState), refusedStage(impl.ErrForm)
	closed := impl.StageOut{Stage: closedStage()}
	on := impl.StageOut{Stage: withStage(func(s *impl.Stage) { s.At, s.Clock.Top, s.Clock.Bids[1].State = 1, 5, impl.BidActive })}
	dear := withStage(func(s *impl.Stage) { s.Fixed = impl.MaxMoney })
	full := withStage(func(s *impl.Stage) { s.Fixed = impl.MaxMoney - 90 })
	over := withStage(func(s *impl.Stage) { s.Fixed = impl.MaxMoney - 89 })
	one := withStage(func(s *impl.Stage) { s.Tops = s.Tops[:1] })
	for _, c := range []struct {
		what     string
		stage    impl.Stage
		proceeds int64
		want     impl.StageOut
	}{
		{"just what is needed", four, 100, closed},
		{"one more", four, 101, closed},
		{"MaxMoney", four, impl.MaxMoney, closed},
		{"above MaxMoney", four, impl.MaxMoney + 1, form},
		{"the greatest", four, math.MaxInt64, form},
		{"one less", four, 99, on},
		{"without what is fixed", four, 90, on},
		{"0", four, 0, on},
		{"below 0", four, -1, form},
		{"the least", four, math.MinInt64, form},
		{"one less, at the only top", one, 99, impl.StageOut{Stage: withStage(func(s *impl.Stage) { s.Tops, s.Failed = s.Tops[:1], true })}},
		{"enough, at the only top", one, 100, impl.StageOut{Stage: withStage(func(s *impl.Stage) { *s = closedStage(); s.Tops = s.Tops[:1] })}},
		{"one less, at the last top", withStage(func(s *impl.Stage) { s.At, s.Clock.Top = 3, 51 }), 99, impl.StageOut{Stage: failedStage()}},
		{"0, at the last top", withStage(func(s *impl.Stage) { s.At, s.Clock.Top = 3, 51 }), 0, impl.StageOut{Stage: failedStage()}},
		{"needs of MaxMoney", full, impl.MaxMoney, impl.StageOut{Stage: withStage(func(s *impl.Stage) { *s = closedStage(); s.Fixed = impl.MaxMoney - 90 })}},
		{"needs of one more than MaxMoney", over, impl.MaxMoney, impl.StageOut{Stage: withStage(func(s *impl.Stage) { *s = keptStage(on.Stage); s.Fixed = impl.MaxMoney - 89 })}},
		{"needs far above MaxMoney", dear, impl.MaxMoney, impl.StageOut{Stage: withStage(func(s *impl.Stage) { *s = keptStage(on.Stage); s.Fixed = impl.MaxMoney })}},
		{"a Bid is active", biddingStage(), 1000, state},
		{"one Bid is active", rightStages()["one active, one frozen"], 1000, state},
		{"one Bid is active, too little", rightStages()["one active, one frozen"], 0, state},
		{"one Bid is active, no money", rightStages()["one active, one frozen"], impl.MaxMoney + 1, form},
		{"closed", closedStage(), 100, state},
		{"closed, too little", closedStage(), 0, state},
		{"closed, below 0", closedStage(), -1, form},
		{"failed", failedStage(), 1000, state},
		{"failed ahead of its last top", rightStages()["failed ahead of its last"], 0, state},
		{"failed, no money", failedStage(), impl.MaxMoney + 1, form},
		{"all out, enough", outStage(), 10, impl.StageOut{Stage: rightStages()["all out, closed"]}},
		{"all out, one less", outStage(), 9, impl.StageOut{Stage: withStage(func(s *impl.Stage) { *s = outStage(); s.At, s.Clock.Top = 3, 51 })}},
		{"all out, nothing fixed, 0", withStage(func(s *impl.Stage) { *s = outStage(); s.Fixed = 0 }), 0,
			impl.StageOut{Stage: withStage(func(s *impl.Stage) { *s = outStage(); s.Fixed, s.Closed = 0, true })}},
		{"out at a Price that nobody pays", rightStages()["out at a Price"], 100, impl.StageOut{Stage: rightStages()["out at a Price, closed"]}},
		{"Prices of 0", withStage(func(s *impl.Stage) { *s = rightStages()["Prices of 0"]; s.Fixed = 0 }), 0,
			impl.StageOut{Stage: withStage(func(s *impl.Stage) {
				s.Closed, s.Fixed, s.Clock.Bids = true, 0, bidsOf(3, 3, 0, 8, 4, 0, 20, 4, 0, 21, 4, 0)
			})}},
	} {
		wantClosed(t, c.what, c.stage, c.proceeds, c.want)
	}
}

// endedAt: a stage whose clock has ended, at the first of tops.
func endedAt(table impl.Table, budget int64, bids []impl.Bid, plan []impl.Place, tops ...int64) impl.Stage {
	return impl.Stage{Clock: impl.Clock{Table: table, Top: tops[0], Price: 6, Step: 4, Budget: budget, Bids: bids, Plan: plan}, Tops: tops, Fixed: 5}
}

// goneOn: s at its next top, with other Bids.
func goneOn(s impl.Stage, bids []impl.Bid) impl.StageOut {
	s.At++
	s.Clock.Top, s.Clock.Bids = s.Tops[s.At], bids
	return impl.StageOut{Stage: s}
}

// Who is active again at the next top: it is asked one by one, of the Plan as it is.
func TestStageGoesOn(t *testing.T) {
	four := fourStations()
	shared := crowdOf([]int64{2}, []int64{2, 3}, []int64{2, 3}, []int64{2, 3})
	tight := crowdOf([]int64{2, 3}, []int64{2})
	lone := endedAt(four, 100, bidsOf(3, 3, 0, 8, 3, 0, 20, 2, 30, 21, 2, 40), placesOf(3, 4, 8, 3), 4, 5, 6)
	both := endedAt(four, 100, bidsOf(3, 3, 0, 8, 3, 0, 20, 2, 30, 21, 2, 40), placesOf(3, 4, 8, 3), 5, 6, 51)
	high := endedAt(four, 100, bidsOf(3, 3, 0, 8, 3, 0, 20, 2, 30, 21, 2, 40), placesOf(3, 6, 8, 3), 6, 9, 51)
	far := endedAt(four, 0, bidsOf(3, 3, 0, 8, 2, 20, 20, 2, 30, 21, 2, 40), placesOf(3, 4), 4, 51)
	crowd := endedAt(shared, 100, bidsOf(1, 3, 0, 2, 2, 20, 3, 2, 30, 4, 2, 40), placesOf(1, 2), 2, 3)
	moved := endedAt(tight, 100, bidsOf(1, 3, 0, 2, 2, 20), placesOf(1, 2), 2, 3)
	unsure := endedAt(tight, 0, bidsOf(1, 3, 0, 2, 2, 20), placesOf(1, 2), 2, 3)
	for _, c := range []struct {
		what  string
		stage impl.Stage
		want  impl.StageOut
	}{
		{"no frozen Bid could have a channel", lone, goneOn(lone, lone.Clock.Bids)},
		{"all could", both, goneOn(both, bidsOf(3, 3, 0, 8, 3, 0, 20, 1, 30, 21, 1, 40))},
		{"one could where it is moved to", high, goneOn(high, bidsOf(3, 3, 0, 8, 3, 0, 20, 1, 30, 21, 1, 40))},
		{"tops far apart", far, goneOn(far, bidsOf(3, 3, 0, 8, 1, 20, 20, 1, 30, 21, 1, 40))},
		{"one could, and the two behind it not", fourStage(), goneOn(fourStage(), bidsOf(3, 3, 0, 8, 1, 20, 20, 2, 30, 21, 2, 40))},
		// 2, 3 and 4 could each have 3, but no two of them: whoever is active again takes it from none.
		{"three that could have the one channel", crowd, goneOn(crowd, bidsOf(1, 3, 0, 2, 1, 20, 3, 1, 30, 4, 1, 40))},
		// 2 could have 2, if 1 were moved to 3; the Plan stays as it is.
		{"one for which another had to move", moved, goneOn(moved, bidsOf(1, 3, 0, 2, 1, 20))},
		{"one of which nothing is shown", unsure, goneOn(unsure, bidsOf(1, 3, 0, 2, 2, 20))},
	} {
		wantClosed(t, c.what, c.stage, 0, c.want)
		wantClosed(t, c.what, c.stage, impl.StageNeeds(c.stage)-1, c.want)
	}
}

// The verdict at the next top behind as many steps as the budget has, and behind one more.
func TestStageGoesOnWithinItsBudget(t *testing.T) {
	t.Parallel()
	table := longYes(0)
	plan := impl.AskAll(table, 50, []int64{1, 2, 3, 4, 5, 7}, impl.MaxSolve).Plan
	steps := impl.AskSteps(table, 51, channels(1, 7))
	if steps != 298 || len(impl.PlanAdd(table, 51, plan, 6)) > 0 {
		t.Fatalf("it takes %d steps", steps)
	}
	for _, budget := range []int64{0, 1, steps - 1, steps, steps + 1, impl.MaxSolve} {
		s := endedAt(table, budget, bidsOf(1, 3, 0, 2, 3, 0, 3, 3, 0, 4, 3, 0, 5, 3, 0, 6, 2, 60, 7, 3, 0), plan, 50, 51)
		state := int64(impl.BidFrozen)
		if budget >= steps {
			state = impl.BidActive
		}
		wantClosed(t, fmt.Sprint("within ", budget), s, 64, goneOn(s, bidsOf(1, 3, 0, 2, 3, 0, 3, 3, 0, 4, 3, 0, 5, 3, 0, 6, state, 60, 7, 3, 0)))
	}
}

// From top to top, up to the last one, where it fails.
func TestStageGoesThroughItsTops(t *testing.T) {
	s := fourStage()
	for _, c := range []struct {
		at   int64
		top  int64
		bids []impl.Bid
	}{
		{1, 5, bidsOf(3, 3, 0, 8, 1, 20, 20, 2, 30, 21, 2, 40)},
		// 8 was frozen as the price came to 0; it could have 3 all the time.
		{2, 6, bidsOf(3, 3, 0, 8, 1, 0, 20, 1, 30, 21, 1, 40)},
		{3, 51, bidsOf(3, 3, 0, 8, 1, 0, 20, 1, 0, 21, 1, 0)},
	} {
		what := fmt.Sprint("at ", c.at)
		s = impl.StageClose(s, 0).Stage
		if s.At != c.at || s.Clock.Top != c.top || !slices.Equal(s.Clock.Bids, c.bids) || s.Closed || s.Failed {
			t.Fatalf("%s: got %+v", what, s)
		}
		for len(impl.ClockActive(s.Clock)) > 0 {
			s = impl.StageRound(s, []int64{3, 8, 20, 21}).Stage
		}
		if s.Clock.Price != 0 || !impl.StageRight(s) {
			t.Fatalf("%s: the rounds lead to %+v", what, s)
		}
	}
	if s = impl.StageClose(s, 9).Stage; !s.Failed || s.At != 3 {
		t.Errorf("at its last top: got %+v", s)
	}
	wantStage(t, "behind its last top", impl.StageClose(s, 1000), refusedStage(impl.ErrState))
}

func TestStageNeedsAtItsEdges(t *testing.T) {
	last := longestTable()
	most := impl.StageOpen(last, []int64{51}, impl.MaxPrice, 1, impl.MaxSolve, nil, impl.MaxMoney).Stage
	for _, c := range []struct {
		what  string
		stage impl.Stage
		want  int64
	}{
		{"ended", fourStage(), 100},
		{"bidding", biddingStage(), 100},
		{"closed", closedStage(), 100},
		{"failed", failedStage(), 100},
		{"Fixed 0", rightStages()["Fixed 0"], 90},
		{"Fixed MaxMoney", rightStages()["Fixed MaxMoney"], impl.MaxMoney + 90},
		{"Prices of 0", rightStages()["Prices of 0"], 10},
		{"all out", outStage(), 10},
		{"out at a Price", rightStages()["out at a Price"], 100},
		{"all out, nothing fixed", withStage(func(s *impl.Stage) { *s = outStage(); s.Fixed = 0 }), 0},
		{"the most there is", most, impl.MaxMoney + 12*maxBid},
		{"not right", withStage(func(s *impl.Stage) { s.At = 1 }), -1},
		{"its Clock not right", withStage(func(s *impl.Stage) { s.Clock.Step = 0 }), -1},
		{"Fixed below 0", withStage(func(s *impl.Stage) { s.Fixed = -1 }), -1},
		{"nothing", impl.Stage{}, -1},
	} {
		if got := impl.StageNeeds(c.stage); got != c.want {
			t.Errorf("%s: got %d, want %d", c.what, got, c.want)
		}
	}
}

func TestStagePaysAtItsEdges(t *testing.T) {
	three := []impl.Pay{{Id: 8, Price: 20}, {Id: 20, Price: 30}, {Id: 21, Price: 40}}
	for _, c := range []struct {
		what  string
		stage impl.Stage
		want  []impl.Pay
	}{
		{"closed", closedStage(), three},
		{"out at a Price", rightStages()["out at a Price, closed"], three},
		{"nobody out", rightStages()["nobody out, closed"], append([]impl.Pay{{Id: 3}}, three...)},
		{"all out", rightStages()["all out, closed"], nil},
		{"ended", fourStage(), nil},
		{"bidding", biddingStage(), nil},
		{"failed", failedStage(), nil},
		{"won, and not Closed", wrongStages()["all won, and not Closed"], nil},
		{"Closed and Failed", wrongStages()["Closed and Failed"], nil},
		{"a frozen one while Closed", wrongStages()["a frozen one while Closed"], nil},
		{"Fixed below 0, Closed", wrongStages()["Fixed -1, Closed"], nil},
		{"its Clock not right", withStage(func(s *impl.Stage) { *s = closedStage(); s.Clock.Plan = nil }), nil},
	} {
		wantPays(t, c.what, impl.StagePays(c.stage), c.want)
	}
}

// anyStage: a right stage; most have ended, some are bidding, some Closed or Failed.
func anyStage(random *rand.Rand, i int) impl.Stage {
	s := impl.Stage{Clock: anyClock(random, i), Fixed: random.Int63n(60)}
	more := []int64{s.Clock.Top}
	for range random.Intn(impl.MaxTops) {
		more = append(more, min(s.Clock.Top+random.Int63n(9)-2, impl.HighChannel))
	}
	slices.Sort(more)
	s.Tops = slices.DeleteFunc(slices.Compact(more), func(top int64) bool { return top < impl.LowChannel })
	s.At = int64(slices.Index(s.Tops, s.Clock.Top))
	state := int64(impl.BidFrozen)
	if kind := random.Intn(10); kind == 0 {
		s.Closed, state = true, impl.BidWon
	} else if kind == 1 {
		s.Failed = true
	}
	for at, b := range s.Clock.Bids {
		if b.State != impl.BidOut {
			s.Clock.Bids[at].State = state
		}
		if b.State != impl.BidOut && !s.Closed && i%5 == 0 && random.Intn(2) == 0 {
			s.Clock.Bids[at].State = impl.BidActive
		}
	}
	return s
}

// someProceeds: those around what s needs, and at the bounds.
func someProceeds(s impl.Stage) []int64 {
	needs := needsByHand(s)
	return []int64{needs - 1, needs, needs + 1, needs / 2, 0, -1, impl.MaxMoney, impl.MaxMoney + 1}
}

func TestStageByHand(t *testing.T) {
	random := rand.New(rand.NewSource(130))
	counts := map[string]int{}
	for i := range 160 {
		s := anyStage(random, i)
		what := fmt.Sprintf("%+v", s)
		wantStageTold(t, what, s)
		stays := someOf(random, idsByHand(s.Clock.Table))
		round := stageRoundByHand(s, stays)
		wantStage(t, fmt.Sprint(what, " stays ", stays), impl.StageRound(s, stays), round)
		wantStageTold(t, what, round.Stage)
		counts[fmt.Sprint("round ", round.Code)]++
		all := someProceeds(s)
		for _, proceeds := range []int64{all[i%2], all[2+random.Intn(6)]} {
			want := closeByHand(s, proceeds)
			wantStage(t, fmt.Sprint(what, " at ", proceeds), impl.StageClose(s, proceeds), want)
			wantStageTold(t, what, want.Stage)
			counts[fmt.Sprint("close ", want.Code)]++
		}
	}
	if counts["round 0"] < 10 || counts[fmt.Sprint("round ", impl.ErrState)] < 60 || counts["close 0"] < 100 ||
		counts[fmt.Sprint("close ", impl.ErrState)] < 40 || counts[fmt.Sprint("close ", impl.ErrForm)] < 15 {
		t.Errorf("the stages are all of one kind: %v", counts)
	}
}

// A stage that is changed in one thing is right, or not, as by hand, and tells what it tells then.
func TestStageThatIsChanged(t *testing.T) {
	random := rand.New(rand.NewSource(131))
	counts := map[bool]int{}
	for i := range 1500 {
		s := keptStage(anyStage(random, i%300))
		numbers := []int64{-1, 0, 1, 2, 3, 4, 5, 50, 51, 52, impl.MaxMoney, impl.MaxMoney + 1}
		n := numbers[random.Intn(len(numbers))]
		switch i % 9 {
		case 0:
			s.At = n
		case 1:
			s.Fixed = n
		case 2:
			s.Clock.Top = n
		case 3:
			s.Tops[random.Intn(len(s.Tops))] += n%5 - 2
		case 4:
			s.Tops = append(s.Tops, n)
		case 5:
			s.Tops = s.Tops[:len(s.Tops)-1]
		case 6:
			s.Closed = !s.Closed
		case 7:
			s.Failed = !s.Failed
		case 8:
			s.Clock.Bids[random.Intn(len(s.Clock.Bids))].State = n
		}
		counts[stageRightByHand(s)]++
		wantStageTold(t, fmt.Sprintf("%+v", s), s)
	}
	if counts[true] < 300 || counts[false] < 300 {
		t.Errorf("the stages are all of one kind: %v", counts)
	}
}

// endedStage: a right stage whose clock has ended, neither Closed nor Failed.
func endedStage(random *rand.Rand, i int) impl.Stage {
	for {
		s := anyStage(random, i)
		if i%2 == 0 {
			s = ranStage(random, i)
		}
		if !s.Closed && !s.Failed && len(activeByHand(s.Clock)) == 0 {
			return s
		}
	}
}

// ranStage: a stage that was opened, and went through rounds to the end of its clock.
func ranStage(random *rand.Rand, i int) impl.Stage {
	c := openClock(random, i)
	s := impl.Stage{Clock: c, Tops: []int64{c.Top}, Fixed: random.Int63n(500)}
	for top := c.Top + 1 + random.Int63n(3); top <= impl.HighChannel && len(s.Tops) < impl.MaxTops && random.Intn(4) > 0; top += 1 + random.Int63n(3) {
		s.Tops = append(s.Tops, top)
	}
	for len(activeByHand(s.Clock)) > 0 {
		s = impl.StageRound(s, mostOf(random, s.Clock, 1)[0]).Stage
	}
	return s
}

func paidIn(s impl.Stage) int64 {
	sum := int64(0)
	for _, pay := range impl.StagePays(s) {
		sum += pay.Price
	}
	return sum
}

// Promise 22.
func TestStageClosesJustIfItIsCovered(t *testing.T) {
	t.Parallel()
	random := rand.New(rand.NewSource(22))
	closed, open, paid := 0, 0, 0
	for i := range 400 {
		s := endedStage(random, i)
		needs := s.Fixed
		for _, b := range s.Clock.Bids {
			if b.State == impl.BidFrozen {
				needs += b.Price
			}
		}
		for _, proceeds := range []int64{0, needs / 2, needs - 1, needs, needs + 1, 2 * needs, impl.MaxMoney} {
			if proceeds < 0 || proceeds > impl.MaxMoney {
				continue
			}
			what := fmt.Sprintf("%+v at %d", s, proceeds)
			got := impl.StageClose(s, proceeds)
			if got.Code != impl.OK || !impl.StageRight(got.Stage) || got.Stage.Closed != (proceeds >= needs) {
				t.Fatalf("%.900s: got %+v", what, got)
			}
			if !got.Stage.Closed {
				open++
				wantPays(t, what, impl.StagePays(got.Stage), nil)
				continue
			}
			closed++
			paid += len(impl.StagePays(got.Stage))
			if sum := paidIn(got.Stage) + got.Stage.Fixed; sum > proceeds || sum != needs || got.Stage.Fixed != s.Fixed {
				t.Errorf("%.900s: %d are paid and fixed", what, sum)
			}
			wantWonAlone(t, what, s, got.Stage)
		}
	}
	if closed < 400 || open < 400 || paid < 1000 {
		t.Errorf("%d are closed, %d are not, %d are paid", closed, open, paid)
	}
}

// wantWonAlone: all that was frozen is won at its Price; nothing else is changed.
func wantWonAlone(t *testing.T, what string, before impl.Stage, now impl.Stage) {
	t.Helper()
	want := keptStage(before)
	want.Closed = true
	for at, b := range want.Clock.Bids {
		if b.State == impl.BidFrozen {
			want.Clock.Bids[at].State = impl.BidWon
		}
	}
	if !stagesAlike(now, want) {
		t.Errorf("%.900s: got %+v, want %+v", what, now, want)
	}
}

// Promise 23.
func TestStageGoesOnOrFails(t *testing.T) {
	t.Parallel()
	random := rand.New(rand.NewSource(23))
	counts := map[string]int{}
	for i := range 500 {
		s := endedStage(random, i)
		needs := impl.StageNeeds(s)
		if needs == 0 {
			continue
		}
		proceeds := random.Int63n(needs)
		what := fmt.Sprintf("%+v at %d", s, proceeds)
		got := impl.StageClose(s, proceeds)
		want := keptStage(s)
		if int(s.At) == len(s.Tops)-1 {
			counts["failed"]++
			want.Failed = true
			wantStage(t, what, got, impl.StageOut{Stage: want})
			continue
		}
		want.At++
		want.Clock.Top = s.Tops[want.At]
		for at, b := range want.Clock.Bids {
			if b.State == impl.BidFrozen && couldComeByHand(t, what, want.Clock, got.Stage.Clock.Bids[at], counts) {
				want.Clock.Bids[at].State = impl.BidActive
			}
		}
		wantStage(t, what, got, impl.StageOut{Stage: want})
		if !impl.StageRight(got.Stage) {
			t.Errorf("%.900s: is not right then", what)
		}
	}
	if counts["failed"] < 100 || counts["active"] < 150 || counts["frozen"] < 150 || counts["not shown"] < 5 {
		t.Errorf("the stages are all of one kind: %v", counts)
	}
}

// couldComeByHand: could it have a channel beside all that are on the air? What a small budget does not show is left open.
func couldComeByHand(t *testing.T, what string, c impl.Clock, now impl.Bid, counts map[string]int) bool {
	t.Helper()
	ids := append(impl.PlanIds(c.Plan), now.Id)
	slices.Sort(ids)
	could := couldHave(c.Table, c.Top, ids, nil)
	if could && c.Budget < impl.MaxSolve && now.State == impl.BidFrozen && impl.AskOne(c.Table, c.Top, c.Plan, now.Id, c.Budget).Verdict == impl.Unknown {
		counts["not shown"]++
		return false
	}
	if could {
		counts["active"]++
	} else {
		counts["frozen"]++
	}
	return could
}

// A round of a stage is a round of its clock, and changes nothing beside it; promises 19 and 20 hold through all its tops.
func TestStageRoundIsAsClockRound(t *testing.T) {
	t.Parallel()
	random := rand.New(rand.NewSource(132))
	counts := map[string]int{}
	for i := range 150 {
		s := ranStage(random, i)
		for !s.Closed && !s.Failed {
			s = impl.StageClose(s, impl.StageNeeds(s)*int64(random.Intn(6))/5).Stage
			for len(activeByHand(s.Clock)) > 0 {
				stays := mostOf(random, s.Clock, 1)[0]
				what := fmt.Sprintf("%+v stays %v", s, stays)
				clock, got := impl.ClockRound(s.Clock, stays), impl.StageRound(s, stays)
				want := keptStage(s)
				want.Clock = clock.Clock
				wantStage(t, what, got, impl.StageOut{Stage: want, Code: clock.Code})
				wantBidsOfRound(t, what, s.Clock, stays, clock, counts)
				wantOnTheAir(t, what, s.Clock, got.Stage.Clock)
				counts["rounds"]++
				if !impl.StageRight(got.Stage) {
					t.Fatalf("%.900s: is not right then: %+v", what, got)
				}
				s = got.Stage
			}
		}
		if s.Closed {
			counts["closed"]++
		} else {
			counts["failed"]++
		}
	}
	if counts["rounds"] < 150 || counts["closed"] < 30 || counts["failed"] < 30 || counts["went out"] < 20 || counts["at the end"]+counts["stayed"] < 100 {
		t.Errorf("the stages are all of one kind: %v", counts)
	}
}

func TestStageKeepsNothing(t *testing.T) {
	random := rand.New(rand.NewSource(133))
	four := fourStage()
	open := func() impl.StageOut {
		return impl.StageOpen(four.Clock.Table, []int64{6, 51}, 10, 4, 100, []int64{3}, 10)
	}
	opened, round := keptStageOut(open()), keptStageOut(impl.StageRound(biddingStage(), []int64{8}))
	closed, on := keptStageOut(impl.StageClose(four, 100)), keptStageOut(impl.StageClose(four, 99))
	for i := range 200 {
		s := anyStage(random, i)
		impl.StageOpen(s.Clock.Table, s.Tops, s.Clock.Price, s.Clock.Step, s.Clock.Budget, someOf(random, idsByHand(s.Clock.Table)), s.Fixed)
		impl.StageRound(s, nil)
		impl.StageClose(s, random.Int63n(1000))
		impl.StageRound(impl.Stage{}, nil)
		wantStage(t, "again", open(), opened)
		wantStage(t, "again", impl.StageRound(biddingStage(), []int64{8}), round)
		wantStage(t, "again", impl.StageClose(four, 100), closed)
		wantStage(t, "again", impl.StageClose(four, 99), on)
		wantStageTold(t, "again", closed.Stage)
	}
}

func heldInStage(s impl.Stage) []heldList {
	return append(heldInClock(s.Clock), held("Tops", s.Tops, -77))
}

// roomyStage: lists with room behind them, which share no memory with s.
func roomyStage(s impl.Stage) impl.Stage {
	s.Clock, s.Tops = roomyClock(s.Clock), roomyIds(s.Tops)
	return s
}

// beyondStage: a copy of s and of the room behind its lists.
func beyondStage(s impl.Stage) impl.Stage {
	s.Clock, s.Tops = beyondClock(s.Clock), slices.Clone(s.Tops[:cap(s.Tops)])
	return s
}

// stageCalls: each call that tells a stage, of s; in the first ones s goes on, closes or fails.
func stageCalls(s impl.Stage, stays []int64) []func() impl.StageOut {
	return []func() impl.StageOut{
		func() impl.StageOut { return impl.StageClose(s, 0) },
		func() impl.StageOut { return impl.StageClose(s, impl.MaxMoney) },
		func() impl.StageOut { return impl.StageRound(s, stays) },
		func() impl.StageOut {
			return impl.StageOpen(s.Clock.Table, s.Tops, s.Clock.Price, s.Clock.Step, s.Clock.Budget, stays, s.Fixed)
		},
	}
}

func TestStageChangesAndSharesNothing(t *testing.T) {
	t.Parallel()
	random := rand.New(rand.NewSource(134))
	counts := map[string]int{}
	for i := range 400 {
		s := roomyStage(anyStage(random, i))
		stays := roomyIds(slices.DeleteFunc(idsByHand(s.Clock.Table), func(int64) bool { return random.Intn(3) > 0 }))
		before, staysBefore := beyondStage(s), slices.Clone(stays[:cap(stays)])
		what := fmt.Sprintf("%+v stays %v", s, stays)
		for at, call := range stageCalls(s, stays) {
			first, second, third := call(), call(), call()
			want := keptStageOut(third)
			lists, turned := heldInStage(first.Stage), heldInStage(second.Stage)
			slices.Reverse(turned)
			wantHeldApart(t, what, lists)
			wantHeldApart(t, what, turned)
			wantStage(t, what, third, want)
			wantStage(t, what+", again", call(), want)
			counts[fmt.Sprint("call ", at, " code ", want.Code)]++
		}
		for _, pay := range [][]impl.Pay{impl.StagePays(s), impl.StagePays(impl.StageClose(s, impl.MaxMoney).Stage)} {
			held("Pays", pay, impl.Pay{Id: -77, Price: -77}).spoil()
		}
		impl.StageNeeds(s)
		if !stagesAlike(beyondStage(s), before) || !slices.Equal(stays[:cap(stays)], staysBefore) {
			t.Errorf("%.900s: what was handed in is changed, or an answer shares its memory", what)
		}
	}
	if counts["call 0 code 0"] < 150 || counts["call 1 code 0"] < 150 || counts["call 2 code 0"] < 40 || counts["call 3 code 0"] < 60 {
		t.Errorf("the stages are all of one kind: %v", counts)
	}
}

// What was handed in may share memory within itself; the answer does not.
func TestStageOfListsThatShare(t *testing.T) {
	numbers := []int64{2, 3, 4, 5}
	table := impl.Table{Stations: []impl.Station{{Id: 2, Score: 1, Domain: numbers}, {Id: 3, Score: 2, Domain: numbers}, {Id: 4, Score: 3, Domain: numbers[1:3]}}}
	open := func() impl.StageOut { return impl.StageOpen(table, numbers, 10, 4, 100, numbers[:1], 5) }
	if out := open(); out.Code != impl.OK || len(out.Stage.Tops) != 4 {
		t.Fatalf("got %+v", out)
	}
	s := open().Stage
	s.Clock.Table, s.Tops = table, numbers
	end := keptStage(s)
	end.Clock.Bids = inState(end, impl.BidFrozen)
	end.Clock.Table, end.Tops = table, numbers
	for _, call := range []func() impl.StageOut{
		open,
		func() impl.StageOut { return impl.StageRound(s, numbers[1:2]) },
		func() impl.StageOut { return impl.StageClose(end, 0) },
		func() impl.StageOut { return impl.StageClose(end, 1000) },
	} {
		first, second := call(), call()
		if first.Code != impl.OK {
			t.Fatalf("got %+v", first)
		}
		turned := heldInStage(second.Stage)
		slices.Reverse(turned)
		wantHeldApart(t, "lists that share", heldInStage(first.Stage))
		wantHeldApart(t, "lists that share", turned)
	}
	wantNumbers(t, "what was handed in", numbers, []int64{2, 3, 4, 5})
}

// What was handed in may change behind an answer, which stays as it is.
func TestStageStaysAsItIs(t *testing.T) {
	random := rand.New(rand.NewSource(135))
	for i := range 200 {
		s := keptStage(anyStage(random, i))
		stays := someOf(random, idsByHand(s.Clock.Table))
		outs, before := []impl.StageOut(nil), []impl.StageOut(nil)
		for _, call := range stageCalls(s, stays) {
			outs = append(outs, call())
			before = append(before, keptStageOut(outs[len(outs)-1]))
		}
		pays := impl.StagePays(s)
		paysBefore := slices.Clone(pays)
		spoilNumbers(stays)
		for _, given := range heldInStage(s) {
			given.spoil()
		}
		for at, out := range outs {
			wantStage(t, fmt.Sprint("answer ", at), out, before[at])
		}
		wantPays(t, "pays", pays, paysBefore)
	}
}
