package tests

import (
	"fmt"
	"math"
	"math/rand"
	"runtime"
	"slices"
	"testing"

	"loop.example/g00144/impl"
)

// valuesRightByHand: what ValuesRight is to tell.
func valuesRightByHand(s impl.Stage, values []impl.Value) bool {
	if !stageRightByHand(s) || len(values) != len(s.Clock.Table.Stations) {
		return false
	}
	for at, station := range s.Clock.Table.Stations {
		if values[at].Id != station.Id || values[at].Worth < 0 || values[at].Worth > 1000000000000 {
			return false
		}
	}
	return true
}

// truthStaysByHand: what TruthStays is to tell.
func truthStaysByHand(s impl.Stage, values []impl.Value) []int64 {
	stays := []int64(nil)
	if !valuesRightByHand(s, values) {
		return stays
	}
	for _, v := range values {
		// Who is offered nothing, as its Bid is not active, is told -1, which is below each Worth.
		if offerByHand(s.Clock, v.Id) >= v.Worth {
			stays = append(stays, v.Id)
		}
	}
	return stays
}

// means: by what a run is led on.
type means struct {
	stays func(impl.Stage, []impl.Value) []int64
	round func(impl.Stage, []int64) impl.StageOut
	close func(impl.Stage, int64) impl.StageOut
}

// ledBy: a run of what is right, one call behind the other.
func ledBy(by means, s impl.Stage, values []impl.Value, proceeds []int64, rounds int64) impl.TruthOut {
	out, used := impl.TruthOut{Stage: s}, 0
	for !out.Stage.Closed && !out.Stage.Failed {
		active := len(activeByHand(out.Stage.Clock)) > 0
		if active && out.Rounds == rounds || !active && used == len(proceeds) {
			break
		}
		next := impl.StageOut{}
		if active {
			next = by.round(out.Stage, by.stays(out.Stage, values))
			out.Rounds++
		} else {
			next = by.close(out.Stage, proceeds[used])
			used++
		}
		if next.Code != impl.OK {
			return impl.TruthOut{Code: -next.Code}
		}
		out.Stage = next.Stage
	}
	return out
}

// truthCodeByHand: the Code that TruthRun is to tell.
func truthCodeByHand(s impl.Stage, values []impl.Value, proceeds []int64, rounds int64) int64 {
	if len(values) > 400 || len(proceeds) > 6 {
		return impl.ErrSize
	}
	if !valuesRightByHand(s, values) || rounds < 0 || rounds > 300 {
		return impl.ErrForm
	}
	for _, v := range proceeds {
		if !fromNoughtByHand(v) {
			return impl.ErrForm
		}
	}
	return impl.OK
}

// truthRunByHand: what TruthRun is to tell.
func truthRunByHand(s impl.Stage, values []impl.Value, proceeds []int64, rounds int64) impl.TruthOut {
	if code := truthCodeByHand(s, values, proceeds, rounds); code != impl.OK {
		return refusedTruth(code)
	}
	return ledBy(means{truthStaysByHand, stageRoundByHand, closeByHand}, s, values, proceeds, rounds)
}

// truthOneByOne: the same by the program's own calls.
func truthOneByOne(s impl.Stage, values []impl.Value, proceeds []int64, rounds int64) impl.TruthOut {
	if code := truthCodeByHand(s, values, proceeds, rounds); code != impl.OK {
		return refusedTruth(code)
	}
	return ledBy(means{impl.TruthStays, impl.StageRound, impl.StageClose}, s, values, proceeds, rounds)
}

// gainByHand: what TruthGain is to tell.
func gainByHand(s impl.Stage, values []impl.Value, id int64) int64 {
	if !valuesRightByHand(s, values) {
		return 0
	}
	for at, b := range s.Clock.Bids {
		if b.Id == id && b.State == impl.BidWon {
			return b.Price - values[at].Worth
		}
	}
	return 0
}

func refusedTruth(code int64) impl.TruthOut {
	return impl.TruthOut{Code: code}
}

// keptTruth: a copy that shares no memory.
func keptTruth(out impl.TruthOut) impl.TruthOut {
	out.Stage = keptStage(out.Stage)
	return out
}

// wantTruth: an empty list and none are the same.
func wantTruth(t *testing.T, what string, got impl.TruthOut, want impl.TruthOut) {
	t.Helper()
	if !stagesAlike(got.Stage, want.Stage) || got.Rounds != want.Rounds || got.Code != want.Code {
		t.Errorf("%.900s: got %+v, want %+v", what, got, want)
	}
}

// wantTruthRun: what a run tells, by hand and one by one, too.
func wantTruthRun(t *testing.T, what string, s impl.Stage, values []impl.Value, proceeds []int64, rounds int64, want impl.TruthOut) {
	t.Helper()
	wantTruth(t, what, impl.TruthRun(s, values, proceeds, rounds), want)
	wantTruth(t, what+", by hand", truthRunByHand(s, values, proceeds, rounds), want)
	wantTruth(t, what+", one by one", truthOneByOne(s, values, proceeds, rounds), want)
	if told := impl.StageRight(want.Stage); told != (want.Code == impl.OK) {
		t.Errorf("%.900s: what comes of it is told to be right: %v", what, told)
	}
}

func wantGain(t *testing.T, what string, s impl.Stage, values []impl.Value, id int64, want int64) {
	t.Helper()
	if got := impl.TruthGain(s, values, id); got != want {
		t.Errorf("%.900s: %d gains %d, want %d", what, id, got, want)
	}
}

func wantValues(t *testing.T, what string, got []impl.Value, want []impl.Value) {
	t.Helper()
	if !slices.Equal(got, want) {
		t.Errorf("%.900s: got %v, want %v", what, got, want)
	}
}

// wantTruthTold: what is told of a stage and values, as by hand.
func wantTruthTold(t *testing.T, what string, s impl.Stage, values []impl.Value) {
	t.Helper()
	if got, want := impl.ValuesRight(s, values), valuesRightByHand(s, values); got != want {
		t.Errorf("%.900s: right is told as %v", what, got)
	}
	wantNumbers(t, what, impl.TruthStays(s, values), truthStaysByHand(s, values))
	for _, id := range idsAround(s.Clock.Table) {
		wantGain(t, what, s, values, id, gainByHand(s, values, id))
	}
}

// valuesOf: Id, Worth, one Value behind the other.
func valuesOf(numbers ...int64) []impl.Value {
	values := []impl.Value(nil)
	for i := 0; i < len(numbers); i += 2 {
		values = append(values, impl.Value{Id: numbers[i], Worth: numbers[i+1]})
	}
	return values
}

// allWorth: values in which each Station of a table is worth the same.
func allWorth(table impl.Table, worth int64) []impl.Value {
	values := []impl.Value(nil)
	for _, s := range table.Stations {
		values = append(values, impl.Value{Id: s.Id, Worth: worth})
	}
	return values
}

// fourValues: right for the four Stations.
func fourValues() []impl.Value {
	return valuesOf(3, 0, 8, 12, 20, 25, 21, 50)
}

// withValues: fourValues, but changed.
func withValues(change func(values []impl.Value)) []impl.Value {
	values := fourValues()
	change(values)
	return values
}

// rightValues: ordinary ones and those at the edges of what is right for the four Stations.
func rightValues() map[string][]impl.Value {
	all := map[string][]impl.Value{
		"ordinary":     fourValues(),
		"all 0":        valuesOf(3, 0, 8, 0, 20, 0, 21, 0),
		"all MaxMoney": valuesOf(3, impl.MaxMoney, 8, impl.MaxMoney, 20, impl.MaxMoney, 21, impl.MaxMoney),
	}
	for at := range 4 {
		for _, worth := range []int64{0, 1, maxBid, maxBid + 1, impl.MaxMoney - 1, impl.MaxMoney} {
			all[fmt.Sprint("Worth of ", at, " is ", worth)] = withValues(func(values []impl.Value) { values[at].Worth = worth })
		}
	}
	return all
}

// wrongValues: not right for the four Stations, each by one thing alone.
func wrongValues() map[string][]impl.Value {
	all := map[string][]impl.Value{
		"none":                             nil,
		"an empty list":                    {},
		"one too few":                      fourValues()[:3],
		"the first one gone":               fourValues()[1:],
		"one in the midst gone":            slices.Delete(fourValues(), 1, 2),
		"one alone":                        fourValues()[:1],
		"one too many":                     append(fourValues(), impl.Value{Id: 22}),
		"one too many ahead":               append(valuesOf(2, 0), fourValues()...),
		"one too many, of Id 0":            append(fourValues(), impl.Value{}),
		"the last one twice":               append(fourValues(), impl.Value{Id: 21, Worth: 50}),
		"the first one twice":              append(valuesOf(3, 0), fourValues()...),
		"all twice":                        append(fourValues(), fourValues()...),
		"two of one Id":                    withValues(func(values []impl.Value) { values[2].Id = 8 }),
		"two of one Id at the end":         withValues(func(values []impl.Value) { values[2].Id = 21 }),
		"two out of order":                 withValues(func(values []impl.Value) { values[1], values[2] = values[2], values[1] }),
		"the last two out of order":        withValues(func(values []impl.Value) { values[2], values[3] = values[3], values[2] }),
		"all falling":                      withValues(func(values []impl.Value) { slices.Reverse(values) }),
		"the Ids 0 to 3":                   valuesOf(0, 0, 1, 0, 2, 0, 3, 0),
		"those of another table":           valuesOf(1, 0, 2, 0, 3, 0, 4, 0),
		"MaxList values":                   make([]impl.Value, impl.MaxList),
		"right ones up to MaxList":         append(fourValues(), make([]impl.Value, impl.MaxList-4)...),
		"all Worths below 0":               valuesOf(3, -1, 8, -1, 20, -1, 21, -1),
		"an Id of no Station at the start": withValues(func(values []impl.Value) { values[0].Id = 4 }),
		"an Id of no Station at the end":   withValues(func(values []impl.Value) { values[3].Id = 22 }),
	}
	for at := range 4 {
		for _, id := range []int64{0, -8, 4, 999, 1000, math.MinInt64, math.MaxInt64} {
			all[fmt.Sprint("Id of ", at, " is ", id)] = withValues(func(values []impl.Value) { values[at].Id = id })
		}
		for _, worth := range []int64{-1, -impl.MaxMoney, impl.MaxMoney + 1, math.MinInt64, math.MaxInt64} {
			all[fmt.Sprint("Worth of ", at, " is ", worth)] = withValues(func(values []impl.Value) { values[at].Worth = worth })
		}
	}
	return all
}

// fourStages: one of each that may stand there, of the four Stations.
func fourStages() map[string]impl.Stage {
	return map[string]impl.Stage{"bidding": biddingStage(), "ended": fourStage(), "closed": closedStage(), "failed": failedStage(), "all out": outStage()}
}

func TestValuesRightAtItsEdges(t *testing.T) {
	for what, s := range rightStages() {
		for which, values := range rightValues() {
			if !impl.ValuesRight(s, values) || !valuesRightByHand(s, values) {
				t.Errorf("%s, %s: is told not to be right", what, which)
			}
		}
		for which, values := range wrongValues() {
			if impl.ValuesRight(s, values) || valuesRightByHand(s, values) {
				t.Errorf("%s, %s: is told to be right", what, which)
			}
		}
		if impl.ValuesRight(s, make([]impl.Value, impl.MaxList+1)) {
			t.Errorf("%s: more than MaxList values are told to be right", what)
		}
	}
}

// As many Stations as there may be, and the fewest: a table without one is not right, so no values are right for it.
func TestValuesOfTheMostAndTheFewest(t *testing.T) {
	for _, table := range []impl.Table{longestTable(), oneStation(1, 1, 2), oneStation(999, 1000, 51)} {
		s := impl.StageOpen(table, []int64{51}, 10, 1, 100, nil, 0).Stage
		values := allWorth(table, 0)
		for n := range len(values) {
			if impl.ValuesRight(s, values[:n]) || impl.ValuesRight(s, values[n+1:]) {
				t.Errorf("%d of %d are told to be right", n, len(values))
			}
		}
		if !impl.ValuesRight(s, values) || impl.ValuesRight(s, append(slices.Clone(values), impl.Value{Id: 1000})) {
			t.Errorf("just %d are told not to be right, or one more is", len(values))
		}
	}
	bare := impl.Stage{Clock: impl.Clock{Top: 4, Price: 10, Step: 4, Budget: 100}, Tops: []int64{4}}
	for _, values := range [][]impl.Value{nil, {}, {{}}, valuesOf(1, 0)} {
		if impl.ValuesRight(bare, values) || impl.ValuesRight(impl.Stage{}, values) {
			t.Errorf("%v are told to be right where there is no Station", values)
		}
		wantTruth(t, "no Station", impl.TruthRun(bare, values, nil, 0), refusedTruth(impl.ErrForm))
		wantNumbers(t, "no Station", impl.TruthStays(bare, values), nil)
	}
}

func TestTruthStaysAtItsEdges(t *testing.T) {
	frozen := withStage(func(s *impl.Stage) { *s = biddingStage(); s.Clock.Bids[2].State = impl.BidFrozen })
	last := withStage(func(s *impl.Stage) { *s = biddingStage(); s.Clock.Price = 4 })
	nought := withStage(func(s *impl.Stage) { *s = biddingStage(); s.Clock.Price = 0 })
	for _, c := range []struct {
		what   string
		stage  impl.Stage
		values []impl.Value
		want   []int64
	}{
		{"offers that are just the Worths", biddingStage(), valuesOf(3, 0, 8, 12, 20, 18, 21, 24), []int64{8, 20, 21}},
		{"Worths of one less", biddingStage(), valuesOf(3, 0, 8, 11, 20, 17, 21, 23), []int64{8, 20, 21}},
		{"Worths of one more", biddingStage(), valuesOf(3, 0, 8, 13, 20, 19, 21, 25), nil},
		{"one of each", biddingStage(), valuesOf(3, 0, 8, 13, 20, 18, 21, 23), []int64{20, 21}},
		{"the first alone", biddingStage(), valuesOf(3, 0, 8, 12, 20, 19, 21, 25), []int64{8}},
		{"the last alone", biddingStage(), valuesOf(3, 0, 8, 13, 20, 19, 21, 24), []int64{21}},
		{"Worths that are their Prices", biddingStage(), valuesOf(3, 0, 8, 20, 20, 30, 21, 40), nil},
		{"Worths of 0", biddingStage(), valuesOf(3, 0, 8, 0, 20, 0, 21, 0), []int64{8, 20, 21}},
		{"Worths of MaxMoney", biddingStage(), valuesOf(3, impl.MaxMoney, 8, impl.MaxMoney, 20, impl.MaxMoney, 21, impl.MaxMoney), nil},
		{"a frozen one", frozen, valuesOf(3, 0, 8, 0, 20, 0, 21, 0), []int64{8, 21}},
		{"all frozen", fourStage(), valuesOf(3, 0, 8, 0, 20, 0, 21, 0), nil},
		{"all won", closedStage(), valuesOf(3, 0, 8, 0, 20, 0, 21, 0), nil},
		{"all out", outStage(), valuesOf(3, 0, 8, 0, 20, 0, 21, 0), nil},
		{"failed", failedStage(), valuesOf(3, 0, 8, 0, 20, 0, 21, 0), nil},
		// Its words ask for active Bids alone.
		{"failed with active ones", rightStages()["failed with active ones"], valuesOf(3, 0, 8, 12, 20, 19, 21, 24), []int64{8, 21}},
		{"nobody out", withStage(func(s *impl.Stage) { *s = biddingStage(); s.Clock.Bids[0].State, s.Clock.Plan = impl.BidActive, nil }), valuesOf(3, 6, 8, 13, 20, 18, 21, 25), []int64{3, 20}},
		{"offers of 0, worth nothing", last, valuesOf(3, 0, 8, 0, 20, 0, 21, 0), []int64{8, 20, 21}},
		{"offers of 0, one worth 1", last, valuesOf(3, 0, 8, 0, 20, 1, 21, 0), []int64{8, 21}},
		{"a Price of 0", nought, valuesOf(3, 0, 8, 1, 20, 0, 21, 1), []int64{20}},
		{"whatever its own Price is", withStage(func(s *impl.Stage) { *s = biddingStage(); s.Clock.Bids[1].Price = maxBid }), valuesOf(3, 0, 8, 13, 20, 19, 21, 24), []int64{21}},
	} {
		wantNumbers(t, c.what, impl.TruthStays(c.stage, c.values), c.want)
		wantTruthTold(t, c.what, c.stage, c.values)
	}
	for what, values := range wrongValues() {
		for _, s := range fourStages() {
			wantNumbers(t, what, impl.TruthStays(s, values), nil)
		}
	}
	wantNumbers(t, "more than MaxList values", impl.TruthStays(biddingStage(), make([]impl.Value, impl.MaxList+1)), nil)
}

// fourAt: the stage of the four at a place of its tops, at a price, with these Bids and this Plan.
func fourAt(at int64, price int64, bids []impl.Bid, plan []impl.Place) impl.Stage {
	return withStage(func(s *impl.Stage) {
		s.At, s.Clock.Top, s.Clock.Price, s.Clock.Bids, s.Clock.Plan = at, s.Tops[at], price, bids, plan
	})
}

// shut: s, Closed or Failed, its Bids that are not out won if it is Closed.
func shut(s impl.Stage, closed bool) impl.Stage {
	s = keptStage(s)
	s.Closed, s.Failed = closed, !closed
	if closed {
		s.Clock.Bids = inState(s, impl.BidWon)
	}
	return s
}

func TestTruthRunAtItsEdges(t *testing.T) {
	start := biddingStage()
	// 8 stays once, then goes out to 3; for 20 and 21 nothing is left up to 4.
	one := fourAt(0, 6, bidsOf(3, 3, 0, 8, 1, 12, 20, 2, 30, 21, 2, 40), placesOf(3, 4))
	two := fourAt(0, 2, bidsOf(3, 3, 0, 8, 3, 0, 20, 2, 30, 21, 2, 40), placesOf(3, 4, 8, 3))
	// Nothing is left for them up to 5, either; up to 6 there is, and both go out at once.
	five := fourAt(1, 2, two.Clock.Bids, two.Clock.Plan)
	six := fourAt(2, 2, bidsOf(3, 3, 0, 8, 3, 0, 20, 1, 30, 21, 1, 40), two.Clock.Plan)
	out := fourAt(2, 0, bidsOf(3, 3, 0, 8, 3, 0, 20, 3, 0, 21, 3, 0), placesOf(3, 4, 8, 3, 20, 6, 21, 6))
	last := fourAt(3, 0, out.Clock.Bids, out.Clock.Plan)
	for _, c := range []struct {
		what     string
		proceeds []int64
		rounds   int64
		stage    impl.Stage
		done     int64
	}{
		{"no rounds, no proceeds", nil, 0, start, 0},
		{"no rounds", []int64{80}, 0, start, 0},
		{"one round", []int64{80}, 1, one, 1},
		{"one round, no proceeds", nil, 1, one, 1},
		{"as many rounds as it takes, no proceeds", nil, 2, two, 2},
		{"one round more, no proceeds", nil, 3, two, 2},
		{"MaxRounds, no proceeds", nil, impl.MaxRounds, two, 2},
		{"no proceeds, an empty list", []int64{}, impl.MaxRounds, two, 2},
		{"closed by the first, behind as many rounds as there may be", []int64{80}, 2, shut(two, true), 2},
		{"closed by the first", []int64{80}, impl.MaxRounds, shut(two, true), 2},
		{"closed by one more than it needs", []int64{81}, 50, shut(two, true), 2},
		{"closed by MaxMoney", []int64{impl.MaxMoney}, 50, shut(two, true), 2},
		{"closed by the first of some", []int64{80, 0, 0}, 50, shut(two, true), 2},
		{"closed by the first of MaxTops", []int64{80, 0, 0, 0, 0, impl.MaxMoney}, 50, shut(two, true), 2},
		{"one less than it needs", []int64{79}, 50, five, 2},
		{"proceeds of 0", []int64{0}, 50, five, 2},
		{"one less, as many rounds as it takes", []int64{79}, 2, five, 2},
		{"closed by the second", []int64{79, 80}, 50, shut(five, true), 2},
		{"closed by the second, without a round more", []int64{79, 80}, 2, shut(five, true), 2},
		{"two active again as its rounds are done", []int64{79, 79}, 2, six, 2},
		{"two active again as its rounds are done, with proceeds left", []int64{79, 79, impl.MaxMoney}, 2, six, 2},
		{"two bid again", []int64{79, 79}, 3, out, 3},
		{"two bid again, rounds left", []int64{0, 0}, impl.MaxRounds, out, 3},
		{"closed without a winner", []int64{79, 79, 10}, 50, shut(out, true), 3},
		{"closed without a winner, no rounds left", []int64{79, 79, 10}, 3, shut(out, true), 3},
		{"at its last top", []int64{79, 79, 9}, 50, last, 3},
		{"closed at its last top", []int64{79, 79, 9, 10}, 50, shut(last, true), 3},
		{"failed at its last top", []int64{79, 79, 9, 9}, 50, shut(last, false), 3},
		{"failed, with proceeds left", []int64{0, 0, 0, 0, impl.MaxMoney, impl.MaxMoney}, 50, shut(last, false), 3},
		{"failed, as its rounds are done", []int64{0, 0, 0, 0}, 3, shut(last, false), 3},
	} {
		wantTruthRun(t, c.what, start, fourValues(), c.proceeds, c.rounds, impl.TruthOut{Stage: c.stage, Rounds: c.done})
	}
}

// Who stays at a top, round by round, by other Worths.
func TestTruthRunOfOtherWorths(t *testing.T) {
	shutOut := fourAt(0, 6, bidsOf(3, 3, 0, 8, 3, 0, 20, 2, 30, 21, 2, 40), placesOf(3, 4, 8, 3))
	toTheEnd := fourAt(0, 0, bidsOf(3, 3, 0, 8, 2, 0, 20, 2, 30, 21, 2, 40), placesOf(3, 4))
	lastRound := fourAt(0, 0, bidsOf(3, 3, 0, 8, 3, 0, 20, 2, 30, 21, 2, 40), placesOf(3, 4, 8, 3))
	for _, c := range []struct {
		what   string
		worth  int64
		stage  impl.Stage
		rounds int64
	}{
		{"0: to the end of the clock", 0, toTheEnd, 3},
		{"1: up to the last offer, which is 0", 1, lastRound, 3},
		{"just the second offer", 4, lastRound, 3},
		{"one more", 5, fourAt(0, 2, bidsOf(3, 3, 0, 8, 3, 0, 20, 2, 30, 21, 2, 40), placesOf(3, 4, 8, 3)), 2},
		{"just the first offer", 12, fourAt(0, 2, bidsOf(3, 3, 0, 8, 3, 0, 20, 2, 30, 21, 2, 40), placesOf(3, 4, 8, 3)), 2},
		{"one more than that", 13, shutOut, 1},
		{"what it was opened at", 20, shutOut, 1},
		{"more than that", 21, shutOut, 1},
		{"MaxMoney", impl.MaxMoney, shutOut, 1},
	} {
		values := impl.TruthOther(fourValues(), 8, c.worth)
		wantTruthRun(t, c.what, biddingStage(), values, nil, 50, impl.TruthOut{Stage: c.stage, Rounds: c.rounds})
		needs := impl.StageNeeds(c.stage)
		wantTruthRun(t, c.what+", closed", biddingStage(), values, []int64{needs}, 50, impl.TruthOut{Stage: shut(c.stage, true), Rounds: c.rounds})
	}
	// Of 20 and 21 the Worth is not asked for at this top.
	for _, worth := range []int64{0, 18, 30, 31, impl.MaxMoney} {
		values := impl.TruthOther(impl.TruthOther(fourValues(), 20, worth), 21, worth)
		wantTruthRun(t, fmt.Sprint("20 and 21 at ", worth), biddingStage(), values, []int64{80}, 50, impl.TruthRun(biddingStage(), fourValues(), []int64{80}, 50))
	}
}

// At the first top nothing is left for 2 and 3; at the next one they bid again, until 2 goes out, and 3 is frozen at what it has.
func TestTruthRunBidsAgain(t *testing.T) {
	table := crowdOf([]int64{2}, []int64{3}, []int64{3})
	s := impl.StageOpen(table, []int64{2, 3}, 10, 1, 100, []int64{1}, 5).Stage
	values := valuesOf(1, 0, 2, 15, 3, 10)
	behindRounds := func(at int64, price int64, bids []impl.Bid, plan []impl.Place) impl.Stage {
		now := keptStage(s)
		now.At, now.Clock.Top, now.Clock.Price, now.Clock.Bids, now.Clock.Plan = at, now.Tops[at], price, bids, plan
		return now
	}
	first := behindRounds(0, 9, bidsOf(1, 3, 0, 2, 2, 20, 3, 2, 30), placesOf(1, 2))
	again := behindRounds(1, 9, bidsOf(1, 3, 0, 2, 1, 20, 3, 1, 30), placesOf(1, 2))
	both := behindRounds(1, 8, bidsOf(1, 3, 0, 2, 1, 16, 3, 1, 24), placesOf(1, 2))
	end := behindRounds(1, 7, bidsOf(1, 3, 0, 2, 3, 0, 3, 2, 24), placesOf(1, 2, 2, 3))
	for _, c := range []struct {
		what     string
		proceeds []int64
		rounds   int64
		stage    impl.Stage
		done     int64
		gains    []int64
	}{
		{"the first top", nil, 50, first, 1, []int64{0, 0, 0}},
		{"closed there", []int64{55, 1000}, 50, shut(first, true), 1, []int64{0, 5, 20}},
		{"gone on, no round left", []int64{54, 1000}, 1, again, 1, []int64{0, 0, 0}},
		{"gone on, one round", []int64{54, 1000}, 2, both, 2, []int64{0, 0, 0}},
		{"gone on, two rounds", []int64{54}, 3, end, 3, []int64{0, 0, 0}},
		{"closed at the last top", []int64{54, 29}, 3, shut(end, true), 3, []int64{0, 0, 14}},
		{"closed at the last top, rounds left", []int64{54, 29}, 50, shut(end, true), 3, []int64{0, 0, 14}},
		{"failed at the last top", []int64{54, 28}, 50, shut(end, false), 3, []int64{0, 0, 0}},
		{"failed, proceeds left", []int64{54, 28, 29, 1000, 0, 0}, 50, shut(end, false), 3, []int64{0, 0, 0}},
	} {
		wantTruthRun(t, c.what, s, values, c.proceeds, c.rounds, impl.TruthOut{Stage: c.stage, Rounds: c.done})
		for at, v := range values {
			wantGain(t, c.what, c.stage, values, v.Id, c.gains[at])
		}
	}
}

// Stages in which nothing, or no round, is left to be done.
func TestTruthRunOfWhatHasEnded(t *testing.T) {
	frozen := withStage(func(s *impl.Stage) { s.Tops = s.Tops[:1] })
	on := goneOn(fourStage(), bidsOf(3, 3, 0, 8, 1, 20, 20, 2, 30, 21, 2, 40)).Stage
	for _, rounds := range []int64{0, 1, 50, impl.MaxRounds} {
		for _, proceeds := range [][]int64{nil, {}, {0}, {100}, {impl.MaxMoney, 0}, {0, 0, 0, 0, 0, 0}, slices.Repeat([]int64{impl.MaxMoney}, impl.MaxTops)} {
			for what, s := range rightStages() {
				if s.Closed || s.Failed {
					wantTruthRun(t, what, s, fourValues(), proceeds, rounds, impl.TruthOut{Stage: s})
				}
			}
		}
		wantTruthRun(t, "ended, no proceeds", fourStage(), fourValues(), nil, rounds, impl.TruthOut{Stage: fourStage()})
		wantTruthRun(t, "ended, just what it needs", fourStage(), fourValues(), []int64{100}, rounds, impl.TruthOut{Stage: closedStage()})
		wantTruthRun(t, "ended, more than it needs", fourStage(), fourValues(), []int64{impl.MaxMoney, 0}, rounds, impl.TruthOut{Stage: closedStage()})
		wantTruthRun(t, "ended at the only top, one less", frozen, fourValues(), []int64{99, 1000}, rounds, impl.TruthOut{Stage: shut(frozen, false)})
		wantTruthRun(t, "all out, no proceeds", outStage(), fourValues(), nil, rounds, impl.TruthOut{Stage: outStage()})
		wantTruthRun(t, "all out, enough", outStage(), fourValues(), []int64{10}, rounds, impl.TruthOut{Stage: shut(outStage(), true)})
	}
	wantTruthRun(t, "ended, one less, no rounds", fourStage(), fourValues(), []int64{99, 99}, 0, impl.TruthOut{Stage: on})
}

// As many rounds as there may be, and one less and more than a clock takes.
func TestTruthRunOfMaxRounds(t *testing.T) {
	table := oneStation(7, 1000, 2)
	values := valuesOf(7, 0)
	for _, c := range []struct {
		price  int64
		rounds int64
		done   int64
		left   int64
	}{
		{0, 300, 1, 0}, {1, 300, 1, 0}, {299, 300, 299, 0}, {300, 300, 300, 0}, {301, 300, 300, 1}, {302, 300, 300, 2}, {1000000, 300, 300, 999700},
		{300, 299, 299, 1}, {299, 299, 299, 0}, {300, 1, 1, 299}, {1, 1, 1, 0}, {0, 1, 1, 0}, {2, 1, 1, 1}, {300, 0, 0, 300}, {1000000, 0, 0, 1000000},
	} {
		what := fmt.Sprint("from ", c.price, " in ", c.rounds)
		s := impl.StageOpen(table, []int64{2}, c.price, 1, 1, nil, 5).Stage
		got := impl.TruthRun(s, values, []int64{5}, c.rounds)
		want := impl.Bid{Id: 7, State: impl.BidWon, Price: 0}
		if c.left > 0 {
			want = impl.Bid{Id: 7, State: impl.BidActive, Price: 1000 * c.left}
		}
		if got.Code != impl.OK || got.Rounds != c.done || got.Stage.Clock.Bids[0] != want || got.Stage.Clock.Price != c.left || got.Stage.Closed != (c.left == 0) {
			t.Errorf("%s: got %+v", what, got)
		}
	}
	// The rounds of all tops are counted together.
	s := impl.StageOpen(oneStation(7, 1, 2), []int64{2, 3, 4}, 3, 1, 1, nil, 1).Stage
	for rounds := range int64(8) {
		got := impl.TruthRun(s, values, []int64{0, 0, 0}, rounds)
		if got.Rounds != min(rounds, 5) || got.Stage.Failed != (rounds >= 5) {
			t.Errorf("in %d: got %+v", rounds, got)
		}
	}
}

// As many proceeds as there may be tops: each leads one top on, and the last one fails.
func TestTruthRunOfMaxTops(t *testing.T) {
	s := impl.StageOpen(oneStation(7, 1, 51), []int64{2, 3, 4, 5, 6, 7}, 10, 1, 1, nil, 1).Stage
	values := valuesOf(7, 3)
	for n := range int64(impl.MaxTops + 1) {
		want := keptStage(s)
		want.At, want.Clock.Price, want.Clock.Bids = min(n, impl.MaxTops-1), 9, bidsOf(7, 2, 10)
		want.Clock.Top, want.Failed = want.Tops[want.At], n == impl.MaxTops
		wantTruthRun(t, fmt.Sprint(n, " proceeds"), s, values, slices.Repeat([]int64{10}, int(n)), 50, impl.TruthOut{Stage: want, Rounds: 1})
	}
	closed := keptStage(s)
	closed.At, closed.Clock.Top, closed.Clock.Price, closed.Clock.Bids, closed.Closed = 5, 7, 9, bidsOf(7, 4, 10), true
	wantTruthRun(t, "closed by the last one", s, values, []int64{10, 0, 10, 0, 10, 11}, 50, impl.TruthOut{Stage: closed, Rounds: 1})
	wantTruthRun(t, "one more", s, values, []int64{10, 0, 10, 0, 10, 11, 11}, 50, refusedTruth(impl.ErrSize))
}

func TestTruthRunOfWrongProceeds(t *testing.T) {
	form, size := refusedTruth(impl.ErrForm), refusedTruth(impl.ErrSize)
	for what, s := range fourStages() {
		for _, wrong := range []int64{-1, -80, -impl.MaxMoney, impl.MaxMoney + 1, math.MinInt64, math.MaxInt64} {
			for at := range impl.MaxTops {
				proceeds := []int64{80, 1000, 0, impl.MaxMoney, 80, 100}
				proceeds[at] = wrong
				// Also behind the one at which the run ends, where none is asked for, and where no round is to be done.
				for _, rounds := range []int64{0, 1, 50, impl.MaxRounds} {
					wantTruth(t, fmt.Sprint(what, " with ", proceeds), impl.TruthRun(s, fourValues(), proceeds, rounds), form)
					wantTruth(t, fmt.Sprint(what, " with ", proceeds[:at+1]), impl.TruthRun(s, fourValues(), proceeds[:at+1], rounds), form)
				}
				more := append(slices.Clone(proceeds), 0)
				wantTruth(t, fmt.Sprint(what, " with ", more), impl.TruthRun(s, fourValues(), more, 50), size)
			}
		}
		for _, n := range []int{impl.MaxTops + 1, impl.MaxTops + 2, 100, impl.MaxList, impl.MaxList + 1} {
			wantTruth(t, fmt.Sprint(what, " with ", n, " proceeds"), impl.TruthRun(s, fourValues(), make([]int64, n), 50), size)
			wantTruth(t, fmt.Sprint(what, " with ", n, " wrong proceeds"), impl.TruthRun(s, fourValues(), slices.Repeat([]int64{-1}, n), 50), size)
		}
	}
}

func TestTruthRunOfWrongRounds(t *testing.T) {
	form, size := refusedTruth(impl.ErrForm), refusedTruth(impl.ErrSize)
	for what, s := range fourStages() {
		for _, rounds := range []int64{-1, -300, impl.MaxRounds + 1, impl.MaxRounds + 2, 4294967296, math.MinInt64, math.MaxInt64} {
			for _, proceeds := range [][]int64{nil, {80}, {-1}, make([]int64, impl.MaxTops)} {
				wantTruth(t, fmt.Sprint(what, " in ", rounds), impl.TruthRun(s, fourValues(), proceeds, rounds), form)
			}
			wantTruth(t, fmt.Sprint(what, " in ", rounds), impl.TruthRun(s, fourValues(), make([]int64, impl.MaxTops+1), rounds), size)
			wantTruth(t, fmt.Sprint(what, " in ", rounds), impl.TruthRun(s, make([]impl.Value, impl.MaxList+1), nil, rounds), size)
		}
	}
}

// Values that are not right: each call says so, but for a list that is too long.
func TestWrongValuesAreRefused(t *testing.T) {
	form, size := refusedTruth(impl.ErrForm), refusedTruth(impl.ErrSize)
	long := append(fourValues(), make([]impl.Value, impl.MaxList-3)...)
	for which, s := range fourStages() {
		for what, values := range wrongValues() {
			what = which + ", " + what
			wantTruthTold(t, what, s, values)
			for _, id := range idsAround(s.Clock.Table) {
				wantGain(t, what, s, values, id, 0)
			}
			for _, proceeds := range [][]int64{nil, {80}, {-1}, make([]int64, impl.MaxTops)} {
				for _, rounds := range []int64{-1, 0, 1, impl.MaxRounds, impl.MaxRounds + 1} {
					wantTruth(t, what, impl.TruthRun(s, values, proceeds, rounds), form)
				}
			}
			wantTruth(t, what, impl.TruthRun(s, values, make([]int64, impl.MaxTops+1), 50), size)
		}
		for _, proceeds := range [][]int64{nil, {80}, {-1}, make([]int64, impl.MaxTops), make([]int64, impl.MaxTops+1), make([]int64, impl.MaxList+1)} {
			for _, rounds := range []int64{-1, 0, 50, impl.MaxRounds + 1} {
				wantTruth(t, which+", more than MaxList values", impl.TruthRun(s, long, proceeds, rounds), size)
			}
		}
		for _, id := range idsAround(s.Clock.Table) {
			wantGain(t, which+", more than MaxList values", s, long, id, 0)
		}
	}
}

// A stage that is not right: each call says so, whatever else it is given, but for a list that is too long.
func TestTruthOfWrongStages(t *testing.T) {
	form, size := refusedTruth(impl.ErrForm), refusedTruth(impl.ErrSize)
	for what, s := range wrongStages() {
		for _, values := range [][]impl.Value{allWorth(s.Clock.Table, 0), fourValues(), nil, make([]impl.Value, impl.MaxList)} {
			if len(values) > impl.MaxList {
				continue
			}
			if impl.ValuesRight(s, values) {
				t.Errorf("%s: values are told to be right", what)
			}
			wantNumbers(t, what, impl.TruthStays(s, values), nil)
			for _, id := range []int64{math.MinInt64, -1, 0, 1, 3, 8, 20, 21, 999, math.MaxInt64} {
				wantGain(t, what, s, values, id, 0)
			}
			for _, proceeds := range [][]int64{nil, {100}, {-1}, make([]int64, impl.MaxTops)} {
				wantTruth(t, what, impl.TruthRun(s, values, proceeds, 50), form)
				wantTruth(t, what, impl.TruthRun(s, values, proceeds, -1), form)
			}
			wantTruth(t, what, impl.TruthRun(s, values, make([]int64, impl.MaxTops+1), 50), size)
			wantTruth(t, what, impl.TruthRun(s, values, make([]int64, impl.MaxList+1), -1), size)
		}
		wantTruth(t, what, impl.TruthRun(s, make([]impl.Value, impl.MaxList+1), nil, 50), size)
		wantTruth(t, what, impl.TruthRun(s, make([]impl.Value, impl.MaxList+1), []int64{-1}, -1), size)
	}
}

func TestTruthGainAtItsEdges(t *testing.T) {
	most := withStage(func(s *impl.Stage) {
		*s = closedStage()
		s.Clock.Bids = bidsOf(3, 3, 0, 8, 4, maxBid, 20, 4, 0, 21, 4, 40)
	})
	for _, c := range []struct {
		what  string
		stage impl.Stage
		id    int64
		worth int64
		want  int64
	}{
		{"won", closedStage(), 8, 5, 15},
		{"won, worth 0", closedStage(), 8, 0, 20},
		{"won at just its Worth", closedStage(), 20, 30, 0},
		{"won at one more", closedStage(), 20, 29, 1},
		{"won at one less", closedStage(), 20, 31, -1},
		{"won, worth MaxMoney", closedStage(), 21, impl.MaxMoney, 40 - impl.MaxMoney},
		{"won at the greatest Price", most, 8, 0, maxBid},
		{"won at the greatest Price, worth MaxMoney", most, 8, impl.MaxMoney, maxBid - impl.MaxMoney},
		{"won at 0, worth 0", most, 20, 0, 0},
		{"won at 0, worth MaxMoney", most, 20, impl.MaxMoney, -impl.MaxMoney},
		{"the first one won", rightStages()["nobody out, closed"], 3, 1, -1},
		{"out, closed", closedStage(), 3, 5, 0},
		{"out at a Price, closed", rightStages()["out at a Price, closed"], 3, 5, 0},
		{"all out, closed", rightStages()["all out, closed"], 8, 5, 0},
		{"frozen", fourStage(), 8, 5, 0},
		{"active", biddingStage(), 8, 5, 0},
		{"frozen, failed", failedStage(), 8, 5, 0},
		{"active, failed", rightStages()["failed with active ones"], 8, 5, 0},
		{"an Id of no Station", closedStage(), 9, 5, 0},
		{"Id 0", closedStage(), 0, 5, 0},
		{"an Id below 0", closedStage(), -8, 5, 0},
		{"the least Id", closedStage(), math.MinInt64, 5, 0},
		{"the greatest Id", closedStage(), math.MaxInt64, 5, 0},
		{"a stage that is not right", wrongStages()["Closed and Failed"], 8, 5, 0},
		{"a won one that is not Closed", wrongStages()["won, and not Closed"], 8, 5, 0},
		{"all won, and not Closed", wrongStages()["all won, and not Closed"], 8, 5, 0},
		{"a Worth below 0", closedStage(), 8, -1, 0},
		{"a Worth of more than MaxMoney", closedStage(), 8, impl.MaxMoney + 1, 0},
	} {
		values := impl.TruthOther(fourValues(), c.id, c.worth)
		wantGain(t, c.what, c.stage, values, c.id, c.want)
		if got := gainByHand(c.stage, values, c.id); got != c.want {
			t.Errorf("%s, by hand: got %d, want %d", c.what, got, c.want)
		}
	}
	// Another one's Worth is not asked for, but must be right all the same.
	for _, worth := range []int64{0, 1, impl.MaxMoney} {
		wantGain(t, "another one's Worth", closedStage(), impl.TruthOther(fourValues(), 20, worth), 8, 8)
	}
	for _, worth := range []int64{-1, impl.MaxMoney + 1, math.MinInt64} {
		wantGain(t, "another one's wrong Worth", closedStage(), impl.TruthOther(fourValues(), 20, worth), 8, 0)
	}
}

func TestTruthOtherAtItsEdges(t *testing.T) {
	four := fourValues()
	full := make([]impl.Value, impl.MaxList)
	other := make([]impl.Value, impl.MaxList)
	full[impl.MaxList-1].Id, other[impl.MaxList-1] = 7, impl.Value{Id: 7, Worth: 9}
	for _, c := range []struct {
		what   string
		values []impl.Value
		id     int64
		worth  int64
		want   []impl.Value
	}{
		{"the first", four, 3, 7, valuesOf(3, 7, 8, 12, 20, 25, 21, 50)},
		{"one in the midst", four, 8, 7, valuesOf(3, 0, 8, 7, 20, 25, 21, 50)},
		{"the last", four, 21, 7, valuesOf(3, 0, 8, 12, 20, 25, 21, 7)},
		{"the Worth that it has", four, 20, 25, four},
		{"a Worth of 0", four, 20, 0, valuesOf(3, 0, 8, 12, 20, 0, 21, 50)},
		{"a Worth of MaxMoney", four, 20, impl.MaxMoney, valuesOf(3, 0, 8, 12, 20, impl.MaxMoney, 21, 50)},
		{"an Id that is not there", four, 9, 7, four},
		{"Id 0", four, 0, 7, four},
		{"an Id below 0", four, -8, 7, four},
		{"the least Id", four, math.MinInt64, 7, four},
		{"no values", nil, 8, 7, nil},
		{"no values, an empty list", []impl.Value{}, 8, 7, nil},
		{"one value", valuesOf(8, 1), 8, 7, valuesOf(8, 7)},
		// It has no stage to hold them against: what is right for none is told as its words say.
		{"a Worth below 0", four, 20, -1, valuesOf(3, 0, 8, 12, 20, -1, 21, 50)},
		{"the least Worth", four, 20, math.MinInt64, valuesOf(3, 0, 8, 12, 20, math.MinInt64, 21, 50)},
		{"the greatest Worth", four, 20, math.MaxInt64, valuesOf(3, 0, 8, 12, 20, math.MaxInt64, 21, 50)},
		{"others that are no Worths", valuesOf(3, -1, 8, impl.MaxMoney+1), 3, 4, valuesOf(3, 4, 8, impl.MaxMoney+1)},
		{"out of order", valuesOf(20, 1, 8, 2, 3, 3), 8, 7, valuesOf(20, 1, 8, 7, 3, 3)},
		{"Ids of no Station", valuesOf(-5, 1, 0, 2, 1000, 3), 0, 7, valuesOf(-5, 1, 0, 7, 1000, 3)},
		{"two of one Id, another one", valuesOf(8, 1, 8, 2, 9, 3), 9, 7, valuesOf(8, 1, 8, 2, 9, 7)},
		{"two of one Id", valuesOf(8, 1, 9, 3, 8, 2), 8, 7, valuesOf(8, 7, 9, 3, 8, 7)},
		{"MaxList values", full, 7, 9, other},
		{"MaxList values, an Id that is not there", full, 8, 9, full},
		{"more than MaxList values", append(slices.Clone(full), impl.Value{}), 7, 9, nil},
		{"more than MaxList values, an Id that is not there", append(slices.Clone(full), impl.Value{}), 8, 9, nil},
	} {
		wantValues(t, c.what, impl.TruthOther(c.values, c.id, c.worth), c.want)
	}
	wantValues(t, "what was handed in", four, fourValues())
}

// someWorth: around an offer, what a Bid has, or anything.
func someWorth(random *rand.Rand, c impl.Clock, at int) int64 {
	score := c.Table.Stations[at].Score
	near := score*max(c.Price-c.Step*(1+random.Int63n(3)), 0) + random.Int63n(3) - 1
	return max([]int64{0, near, near, near, c.Bids[at].Price, random.Int63n(score*(c.Price+1) + 1), impl.MaxMoney}[random.Intn(7)], 0)
}

func someValues(random *rand.Rand, c impl.Clock) []impl.Value {
	values := allWorth(c.Table, 0)
	for at := range values {
		values[at].Worth = someWorth(random, c, at)
	}
	return values
}

// proceedsFor: up to MaxTops numbers, most of them below what s needs now.
func proceedsFor(random *rand.Rand, s impl.Stage) []int64 {
	proceeds := []int64(nil)
	for range random.Intn(impl.MaxTops + 1) {
		needs := needsByHand(s)
		proceeds = append(proceeds, min([]int64{needs * random.Int63n(8) / 9, needs / 2, needs, 0, impl.MaxMoney}[random.Intn(5)], impl.MaxMoney))
	}
	return proceeds
}

func someRounds(random *rand.Rand) int64 {
	return []int64{0, 1, 2, 3, 5, 20, impl.MaxRounds, impl.MaxRounds, impl.MaxRounds}[random.Intn(9)]
}

// truthStage: one that is opened, or one in which anything may stand.
func truthStage(random *rand.Rand, i int) impl.Stage {
	if i%3 == 0 {
		return anyStage(random, i)
	}
	return openStage(random, i)
}

// openStage: a stage as it is opened.
func openStage(random *rand.Rand, i int) impl.Stage {
	c := openClock(random, i)
	tops := []int64{c.Top}
	for top := c.Top + 1 + random.Int63n(2); top <= impl.HighChannel && len(tops) < impl.MaxTops && random.Intn(5) > 0; top += 1 + random.Int63n(3) {
		tops = append(tops, top)
	}
	return impl.StageOpen(c.Table, tops, c.Price, c.Step, c.Budget, impl.PlanIds(c.Plan), random.Int63n(50)).Stage
}

// How a run has ended.
func endOf(out impl.TruthOut) string {
	switch {
	case out.Code != impl.OK:
		return fmt.Sprint("code ", out.Code)
	case out.Stage.Closed:
		return "closed"
	case out.Stage.Failed:
		return "failed"
	case len(activeByHand(out.Stage.Clock)) > 0:
		return "bidding"
	}
	return "ended"
}

func TestTruthByHand(t *testing.T) {
	t.Parallel()
	random := rand.New(rand.NewSource(140))
	counts := map[string]int{}
	for i := range 100 {
		s := truthStage(random, i)
		values, proceeds, rounds := someValues(random, s.Clock), proceedsFor(random, s), min(someRounds(random), 12)
		what := fmt.Sprintf("%+v by %v with %v in %d", s, values, proceeds, rounds)
		want := truthRunByHand(s, values, proceeds, rounds)
		wantTruth(t, what, impl.TruthRun(s, values, proceeds, rounds), want)
		wantTruthTold(t, what, s, values)
		wantTruthTold(t, what, want.Stage, values)
		counts[endOf(want)]++
		counts["rounds"] += int(want.Rounds)
	}
	if counts["closed"] < 15 || counts["failed"] < 8 || counts["bidding"] < 8 || counts["ended"] < 8 || counts["rounds"] < 100 {
		t.Errorf("the runs are all of one kind: %v", counts)
	}
}

// A run is its rounds and proceeds one by one; wherever its rounds are cut, it goes on from there to the same end.
func TestTruthRunIsOneByOne(t *testing.T) {
	t.Parallel()
	random := rand.New(rand.NewSource(141))
	counts := map[string]int{}
	for i := range 1200 {
		s := truthStage(random, i)
		values, proceeds, rounds := someValues(random, s.Clock), proceedsFor(random, s), someRounds(random)
		what := fmt.Sprintf("%+v by %v with %v in %d", s, values, proceeds, rounds)
		got := impl.TruthRun(s, values, proceeds, rounds)
		wantTruth(t, what, got, truthOneByOne(s, values, proceeds, rounds))
		counts[endOf(got)]++
		counts[fmt.Sprint(got.Stage.At-s.At, " tops on")]++
		if got.Code != impl.OK || !impl.StageRight(got.Stage) || got.Rounds > rounds {
			t.Fatalf("%.900s: got %+v", what, got)
		}
		cut := random.Int63n(rounds + 1)
		first := impl.TruthRun(s, values, proceeds, cut)
		// Each top that it went on by took one of the proceeds, and so did its end.
		used := first.Stage.At - s.At
		if first.Stage.Closed != s.Closed || first.Stage.Failed != s.Failed {
			used++
		}
		second := impl.TruthRun(first.Stage, values, proceeds[used:], rounds-first.Rounds)
		second.Rounds += first.Rounds
		wantTruth(t, fmt.Sprint(what, " cut at ", cut), second, got)
	}
	if counts["closed"] < 200 || counts["failed"] < 100 || counts["bidding"] < 100 || counts["ended"] < 100 ||
		counts["0 tops on"] < 200 || counts["1 tops on"] < 80 || counts["2 tops on"] < 30 {
		t.Errorf("the runs are all of one kind: %v", counts)
	}
}

// What is handed in is changed in one thing: the run is refused, or goes, as by hand.
func TestTruthOfWhatIsChanged(t *testing.T) {
	t.Parallel()
	random := rand.New(rand.NewSource(142))
	codes := map[int64]int{}
	for i := range 2000 {
		s := keptStage(truthStage(random, i%300))
		values, proceeds, rounds := someValues(random, s.Clock), proceedsFor(random, s), random.Int63n(4)
		numbers := []int64{-1, 0, 1, 2, 300, 301, 1000, impl.MaxMoney, impl.MaxMoney + 1, math.MinInt64, math.MaxInt64}
		n := numbers[random.Intn(len(numbers))]
		at := random.Intn(len(values))
		switch i % 9 {
		case 0:
			values[at].Worth = n
		case 1:
			values[at].Id += n % 3
		case 2:
			values = slices.Delete(values, at, at+1)
		case 3:
			values = slices.Insert(values, at, values[random.Intn(len(values))])
		case 4:
			values[at], values[0] = values[0], values[at]
		case 5:
			proceeds = append(proceeds, n)
		case 6:
			rounds = n
		case 7:
			s.Fixed = n
		case 8:
			s.Clock.Bids[at].State = n
		}
		code := truthCodeByHand(s, values, proceeds, rounds)
		codes[code]++
		what := fmt.Sprintf("%+v by %v with %v in %d", s, values, proceeds, rounds)
		wantTruth(t, what, impl.TruthRun(s, values, proceeds, rounds), truthOneByOne(s, values, proceeds, rounds))
		wantTruthTold(t, what, s, values)
	}
	if codes[impl.OK] < 300 || codes[impl.ErrForm] < 500 || codes[impl.ErrSize] < 10 {
		t.Errorf("the codes are all of one kind: %v", codes)
	}
}

// openedAt: what the Bid at a place of a stage that was just opened stands at; those that must stay stand at 0.
func openedAt(s impl.Stage, at int) int64 {
	return s.Clock.Bids[at].Price
}

// openedBelow: is the Bid at a place active, and was it opened below that Worth?
func openedBelow(s impl.Stage, at int, worth int64) bool {
	return s.Clock.Bids[at].State == impl.BidActive && openedAt(s, at) < worth
}

// worthsUpTo: values for an auction that opens, no Worth of an active Bid above what it was opened at.
func worthsUpTo(random *rand.Rand, s impl.Stage) []impl.Value {
	values := someValues(random, s.Clock)
	for at, v := range values {
		if openedBelow(s, at, v.Worth) {
			values[at].Worth = openedAt(s, at)
		}
	}
	return values
}

// otherWorths: worths to which a Station might stay, others than its own among them.
func otherWorths(random *rand.Rand, s impl.Stage, at int, worth int64) []int64 {
	opened := openedAt(s, at)
	offer := s.Clock.Table.Stations[at].Score * max(s.Clock.Price-s.Clock.Step*random.Int63n(4), 0)
	return []int64{0, max(worth-1, 0), min(worth+1, impl.MaxMoney), offer, offer + 1, max(offer-1, 0), opened, opened + 1, random.Int63n(opened + 1), impl.MaxMoney}
}

// wantPromise24: whatever other Worth the Station at a place stays to, it gains no more than by its own one.
func wantPromise24(t *testing.T, s impl.Stage, values []impl.Value, at int, others []int64, proceeds []int64, rounds int64, counts map[string]int) {
	t.Helper()
	id, worth := values[at].Id, values[at].Worth
	what := fmt.Sprintf("%+v by %v with %v in %d", s, values, proceeds, rounds)
	own := impl.TruthRun(s, values, proceeds, rounds)
	gain := impl.TruthGain(own.Stage, values, id)
	if gain < 0 && !openedBelow(s, at, worth) {
		t.Errorf("%.900s: %d loses: %d", what, id, gain)
	}
	if gain > 0 {
		counts["gains"]++
	}
	for _, other := range others {
		run := impl.TruthRun(s, impl.TruthOther(values, id, other), proceeds, rounds)
		got := impl.TruthGain(run.Stage, values, id)
		if got > gain || run.Code != impl.OK || got != gainByHand(run.Stage, values, id) {
			t.Errorf("%.900s: %d gains %d, and by %d %d: %+v", what, id, gain, other, got, run)
		}
		switch {
		case got < 0:
			counts["loses by another Worth"]++
		case got < gain:
			counts["gains less"]++
		case got > 0:
			counts["gains the same"]++
		}
	}
}

// Promise 24.
func TestToStayByOnesWorthIsBest(t *testing.T) {
	t.Parallel()
	random := rand.New(rand.NewSource(24))
	counts := map[string]int{}
	for i := range 800 {
		s := openStage(random, i)
		values, proceeds, rounds := worthsUpTo(random, s), proceedsFor(random, s), someRounds(random)
		at := random.Intn(len(values))
		if i%4 == 0 {
			// To be opened below one's Worth may lose, but no other Worth would lose less.
			values[at].Worth = openedAt(s, at) + 1 + random.Int63n(20)
		}
		wantPromise24(t, s, values, at, otherWorths(random, s, at, values[at].Worth), proceeds, rounds, counts)
	}
	if counts["gains"] < 50 || counts["loses by another Worth"] < 15 || counts["gains less"] < 15 || counts["gains the same"] < 200 {
		t.Errorf("the gains are all of one kind: %v", counts)
	}
}

// smallAuctions: each is opened at 4 for each Station, or at 3; who goes out takes a channel from others.
func smallAuctions() []impl.Stage {
	list := []impl.Stage(nil)
	for _, domains := range [][][]int64{{{2}, {2, 3}, {3}}, {{2, 3}, {2, 3}, {2, 3}}, {{2}, {2}, {2, 4}}, {{3}, {2, 3}, {3, 4}}} {
		table := crowdOf(domains...)
		for at := range table.Stations {
			table.Stations[at].Score = 1
		}
		list = append(list, impl.StageOpen(table, []int64{2, 3}, 4, 1, 100, nil, 1).Stage, impl.StageOpen(table, []int64{2, 3, 4}, 3, 2, 100, nil, 0).Stage)
	}
	return list
}

// eachValues: all values of three Stations with Worths from 0 up to the greatest.
func eachValues(greatest int64) [][]impl.Value {
	list := [][]impl.Value(nil)
	for a := range greatest + 1 {
		for b := range greatest + 1 {
			for c := range greatest + 1 {
				list = append(list, valuesOf(1, a, 2, b, 3, c))
			}
		}
	}
	return list
}

// Promises 24 and 25, of all Worths that three Stations may have, against all others that each may stay to.
func TestToStayByOnesWorthIsBestInSmallAuctions(t *testing.T) {
	t.Parallel()
	counts := map[string]int{}
	for _, s := range smallAuctions() {
		greatest := openedAt(s, 0)
		for _, values := range eachValues(greatest) {
			for _, proceeds := range [][]int64{{greatest + 1, impl.MaxMoney}, {2*greatest + 1, 2, 2}, {impl.MaxMoney}} {
				wantPromise25(t, s, values, proceeds, impl.MaxRounds, counts)
				for at := range values {
					wantPromise24(t, s, values, at, countUp(0, greatest+1), proceeds, impl.MaxRounds, counts)
				}
			}
		}
	}
	if counts["gains"] < 1000 || counts["loses by another Worth"] < 500 || counts["gains less"] < 500 || counts["winners"] < 1000 {
		t.Errorf("the gains are all of one kind: %v", counts)
	}
}

// wantPromise25: each winner is paid at least its Worth, and no more than it was opened at.
func wantPromise25(t *testing.T, s impl.Stage, values []impl.Value, proceeds []int64, rounds int64, counts map[string]int) {
	t.Helper()
	run := impl.TruthRun(s, values, proceeds, rounds)
	for _, pay := range impl.StagePays(run.Stage) {
		at := slices.IndexFunc(values, func(v impl.Value) bool { return v.Id == pay.Id })
		opened := openedAt(s, at)
		if pay.Price > opened || pay.Price < values[at].Worth {
			t.Errorf("%+v by %v with %v in %d: %v is paid, worth %d, opened at %d", s, values, proceeds, rounds, pay, values[at].Worth, opened)
		}
		wantGain(t, "what is paid less its Worth", run.Stage, values, pay.Id, pay.Price-values[at].Worth)
		counts["winners"]++
		if pay.Price < opened {
			counts["below what they were opened at"]++
		}
		if pay.Price == values[at].Worth {
			counts["at their Worth"]++
		}
	}
	if run.Stage.At > 0 && run.Stage.Closed {
		counts["closed at a later top"]++
	}
}

// Promise 25.
func TestWinnersArePaidTheirWorths(t *testing.T) {
	t.Parallel()
	random := rand.New(rand.NewSource(25))
	counts := map[string]int{}
	for i := range 1500 {
		s := openStage(random, i)
		wantPromise25(t, s, worthsUpTo(random, s), proceedsFor(random, s), impl.MaxRounds, counts)
	}
	if counts["winners"] < 500 || counts["below what they were opened at"] < 100 || counts["at their Worth"] < 40 || counts["closed at a later top"] < 50 {
		t.Errorf("the winners are all of one kind: %v", counts)
	}
}

// Promises 24 and 25 at their bounds: who is opened at just its Worth, and could have no channel, gains 0. Who is opened below
// its Worth is frozen there, too, before it is offered anything: it loses, and would so by any Worth.
func TestWhoIsFrozenAsItIsOpened(t *testing.T) {
	s := impl.StageOpen(oneStation(7, 3, 51), []int64{2}, 10, 4, 100, nil, 0).Stage
	for _, c := range []struct{ worth, gain int64 }{{0, 30}, {29, 1}, {30, 0}, {31, -1}, {impl.MaxMoney, 30 - impl.MaxMoney}} {
		values := valuesOf(7, c.worth)
		for _, other := range []int64{0, 1, 18, 29, 30, 31, c.worth, impl.MaxMoney} {
			run := impl.TruthRun(s, impl.TruthOther(values, 7, other), []int64{30}, 50)
			wantGain(t, fmt.Sprint("worth ", c.worth, ", by ", other), run.Stage, values, 7, c.gain)
			wantPays(t, fmt.Sprint("worth ", c.worth, ", by ", other), impl.StagePays(run.Stage), []impl.Pay{{Id: 7, Price: 30}})
		}
	}
	// Where it could have a channel, it goes out at once, and loses nothing.
	free := impl.StageOpen(oneStation(7, 3, 51), []int64{51}, 10, 4, 100, nil, 0).Stage
	for _, worth := range []int64{19, 29, 30, 31, impl.MaxMoney} {
		run := impl.TruthRun(free, valuesOf(7, worth), []int64{30}, 50)
		wantGain(t, fmt.Sprint("free, worth ", worth), run.Stage, valuesOf(7, worth), 7, 0)
		wantPays(t, fmt.Sprint("free, worth ", worth), impl.StagePays(run.Stage), nil)
	}
}

// A run of the most Stations there may be through the most rounds ends in short time, and as one by one.
func TestTruthOfTheMostThereIs(t *testing.T) {
	t.Parallel()
	table := longestTable()
	s := impl.StageOpen(table, []int64{49, 50, 51}, impl.MaxPrice, 4000, impl.MaxSolve, []int64{988}, impl.MaxMoney).Stage
	values := allWorth(table, 0)
	for at := range values {
		values[at].Worth = int64(at) * 80000000
	}
	proceeds := []int64{0, impl.MaxMoney, impl.MaxMoney}
	got := impl.TruthRun(s, values, proceeds, impl.MaxRounds)
	wantTruth(t, "the most there is", got, truthOneByOne(s, values, proceeds, impl.MaxRounds))
	if got.Code != impl.OK || got.Rounds < 50 {
		t.Errorf("the most there is: got %+v", got)
	}
	// Each round asks the solver for nearly all the steps it may take.
	hard := longYes(0)
	slow := impl.StageOpen(hard, []int64{51}, impl.MaxPrice, 1, impl.MaxSolve, []int64{1, 2, 3, 4, 5, 7}, 0).Stage
	if got := impl.TruthRun(slow, allWorth(hard, 0), nil, impl.MaxRounds); got.Rounds != impl.MaxRounds || len(impl.ClockActive(got.Stage.Clock)) != 1 {
		t.Errorf("the most steps: got %+v", got)
	}
}

// Calls that count gains in goroutines of their own leave none behind.
func TestTruthLeavesNoGoroutine(t *testing.T) {
	before := runtime.NumGoroutine()
	for what, s := range rightStages() {
		for range 20 {
			for _, id := range idsAround(s.Clock.Table) {
				impl.TruthGain(s, fourValues(), id)
			}
			impl.TruthGain(s, nil, 8)
			impl.TruthGain(impl.Stage{}, fourValues(), 8)
			impl.TruthRun(s, fourValues(), []int64{0, 100}, 5)
		}
		if after := goroutinesBut(before); after > before {
			t.Fatalf("%s: %d goroutines, there were %d", what, after, before)
		}
	}
}

// A call in each of some goroutines at the same time answers what it answers alone.
func TestTruthAtTheSameTime(t *testing.T) {
	s, values := closedStage(), fourValues()
	start, proceeds := biddingStage(), []int64{79, 79, 10}
	run := impl.TruthRun(start, values, proceeds, 50)
	gains, runs := make(chan [4]int64), make(chan impl.TruthOut)
	for range 20 {
		go func() {
			told := [4]int64{}
			for at, v := range values {
				told[at] = impl.TruthGain(s, values, v.Id)
			}
			gains <- told
			runs <- impl.TruthRun(start, values, proceeds, 50)
		}()
	}
	for range 20 {
		if got := <-gains; got != [4]int64{0, 8, 5, -10} {
			t.Errorf("at the same time: the gains are %v", got)
		}
		wantTruth(t, "at the same time", <-runs, run)
	}
}

func TestTruthKeepsNothing(t *testing.T) {
	t.Parallel()
	random := rand.New(rand.NewSource(143))
	values := fourValues()
	run := keptTruth(impl.TruthRun(biddingStage(), values, []int64{79, 79}, 50))
	for i := range 200 {
		s := truthStage(random, i)
		impl.TruthRun(s, someValues(random, s.Clock), proceedsFor(random, s), 3)
		impl.TruthOther(values, 8, random.Int63n(50))
		impl.TruthRun(impl.Stage{}, values, nil, -1)
		wantTruth(t, "again", impl.TruthRun(biddingStage(), values, []int64{79, 79}, 50), run)
		wantTruthTold(t, "again", closedStage(), values)
		wantTruthTold(t, "again", biddingStage(), values)
	}
}

// roomyValues: with room behind them.
func roomyValues(values []impl.Value) []impl.Value {
	return append(make([]impl.Value, 0, len(values)+4), values...)
}

func spoilValues(values []impl.Value) {
	held("Values", values, impl.Value{Id: -77, Worth: -77}).spoil()
}

// truthCalls: runs that do nothing, that end as their rounds or proceeds do, that close or fail.
func truthCalls(s impl.Stage, values []impl.Value, proceeds []int64) []func() impl.TruthOut {
	return []func() impl.TruthOut{
		func() impl.TruthOut { return impl.TruthRun(s, values, nil, 0) },
		func() impl.TruthOut { return impl.TruthRun(s, values, proceeds, 1) },
		func() impl.TruthOut { return impl.TruthRun(s, values, nil, 50) },
		func() impl.TruthOut { return impl.TruthRun(s, values, proceeds, 50) },
		func() impl.TruthOut { return impl.TruthRun(s, values, []int64{impl.MaxMoney}, 50) },
		func() impl.TruthOut { return impl.TruthRun(s, values, make([]int64, impl.MaxTops), 50) },
	}
}

func TestTruthChangesAndSharesNothing(t *testing.T) {
	t.Parallel()
	random := rand.New(rand.NewSource(144))
	counts := map[string]int{}
	for i := range 200 {
		s := roomyStage(truthStage(random, i))
		values, proceeds := roomyValues(someValues(random, s.Clock)), roomyIds(proceedsFor(random, s))
		before, valuesBefore, proceedsBefore := beyondStage(s), slices.Clone(values[:cap(values)]), slices.Clone(proceeds[:cap(proceeds)])
		what := fmt.Sprintf("%+v by %v with %v", s, values, proceeds)
		for _, call := range truthCalls(s, values, proceeds) {
			first, second, third := call(), call(), call()
			want := keptTruth(third)
			turned := heldInStage(second.Stage)
			slices.Reverse(turned)
			wantHeldApart(t, what, heldInStage(first.Stage))
			wantHeldApart(t, what, turned)
			wantTruth(t, what, third, want)
			wantTruth(t, what+", again", call(), want)
			counts[endOf(want)]++
		}
		spoilNumbers(impl.TruthStays(s, values))
		spoilValues(impl.TruthOther(values, values[0].Id, 7))
		spoilValues(impl.TruthOther(values, -1, 7))
		impl.TruthGain(s, values, values[0].Id)
		impl.ValuesRight(s, values)
		if !stagesAlike(beyondStage(s), before) || !slices.Equal(values[:cap(values)], valuesBefore) || !slices.Equal(proceeds[:cap(proceeds)], proceedsBefore) {
			t.Errorf("%.900s: what was handed in is changed, or an answer shares its memory", what)
		}
	}
	if counts["closed"] < 150 || counts["failed"] < 100 || counts["bidding"] < 100 || counts["ended"] < 100 {
		t.Errorf("the runs are all of one kind: %v", counts)
	}
}

// What was handed in may share memory within itself; the answer does not.
func TestTruthOfListsThatShare(t *testing.T) {
	numbers := []int64{2, 3, 4, 5}
	table := impl.Table{Stations: []impl.Station{{Id: 2, Score: 1, Domain: numbers}, {Id: 3, Score: 2, Domain: numbers}, {Id: 4, Score: 3, Domain: numbers[1:3]}}}
	s := impl.StageOpen(table, numbers, 10, 4, 100, numbers[:1], 5).Stage
	s.Clock.Table, s.Tops = table, numbers
	values := valuesOf(2, 0, 3, 5, 4, 0)
	shared := shut(withStage(func(now *impl.Stage) { *now = s; now.Clock.Bids = inState(s, impl.BidFrozen) }), true)
	shared.Clock.Table, shared.Tops = table, numbers
	calls := append(truthCalls(s, values, numbers), truthCalls(shared, values, numbers)...)
	for _, call := range calls {
		first, second := call(), call()
		if first.Code != impl.OK {
			t.Fatalf("got %+v", first)
		}
		turned := heldInStage(second.Stage)
		slices.Reverse(turned)
		wantHeldApart(t, "lists that share", heldInStage(first.Stage))
		wantHeldApart(t, "lists that share", turned)
	}
	wantNumbers(t, "what was handed in", numbers, []int64{2, 3, 4, 5})
}

// What was handed in may change behind an answer, which stays as it is.
func TestTruthStaysAsItIs(t *testing.T) {
	t.Parallel()
	random := rand.New(rand.NewSource(145))
	for i := range 150 {
		s := keptStage(truthStage(random, i))
		values, proceeds := someValues(random, s.Clock), proceedsFor(random, s)
		outs, before := []impl.TruthOut(nil), []impl.TruthOut(nil)
		for _, call := range truthCalls(s, values, proceeds) {
			outs = append(outs, call())
			before = append(before, keptTruth(outs[len(outs)-1]))
		}
		stays, same, other := impl.TruthStays(s, values), impl.TruthOther(values, -1, 7), impl.TruthOther(values, values[0].Id, 7)
		staysBefore, sameBefore, otherBefore := slices.Clone(stays), slices.Clone(same), slices.Clone(other)
		for _, given := range heldInStage(s) {
			given.spoil()
		}
		spoilValues(values)
		spoilNumbers(proceeds)
		for at, out := range outs {
			wantTruth(t, fmt.Sprint("answer ", at), out, before[at])
		}
		wantNumbers(t, "stays", stays, staysBefore)
		wantValues(t, "the values as they are", same, sameBefore)
		wantValues(t, "another Worth", other, otherBefore)
	}
}
