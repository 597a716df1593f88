package tests

import (
	"fmt"
	"math"
	"math/rand"
	"slices"
	"testing"

	"loop.example/g00144/impl"
)

// maxBid: the greatest Price that a Bid may have.
const maxBid = 1000 * impl.MaxPrice

func clockNumbersByHand(top int64, price int64, step int64, budget int64) bool {
	return top >= 2 && top <= 51 && price >= 0 && price <= 1000000 && step >= 1 && step <= 1000000 && budget >= 0 && budget <= impl.MaxSolve
}

// clockRightByHand: what ClockRight is to tell.
func clockRightByHand(c impl.Clock) bool {
	if !rightByHand(c.Table) || !clockNumbersByHand(c.Top, c.Price, c.Step, c.Budget) || len(c.Bids) != len(c.Table.Stations) {
		return false
	}
	out := []int64(nil)
	for i, s := range c.Table.Stations {
		b := c.Bids[i]
		if b.Id != s.Id || b.State < 1 || b.State > 4 || b.Price < 0 || b.Price > maxBid {
			return false
		}
		if b.State == 3 {
			out = append(out, b.Id)
		}
	}
	on := []int64(nil)
	for _, place := range c.Plan {
		on = append(on, place.Id)
	}
	return slices.Equal(on, out) && faultByHand(c.Table, c.Top, c.Plan) == 0
}

// clockOpenByHand: what ClockOpen is to tell.
func clockOpenByHand(table impl.Table, top int64, price int64, step int64, budget int64, must []int64) impl.ClockOut {
	if len(must) > impl.MaxList {
		return refusedClock(impl.ErrSize)
	}
	if !idsRightByHand(table, must) || !clockNumbersByHand(top, price, step, budget) {
		return refusedClock(impl.ErrForm)
	}
	asked := allAskedByHand(table, top, must, budget)
	if asked.Verdict != impl.Yes {
		return refusedClock(impl.ErrInfeasible)
	}
	c := impl.Clock{Table: table, Top: top, Price: price, Step: step, Budget: budget, Plan: asked.Plan}
	for _, s := range table.Stations {
		bid := impl.Bid{Id: s.Id, State: impl.BidActive, Price: s.Score * price}
		if slices.Contains(must, s.Id) {
			bid = impl.Bid{Id: s.Id, State: impl.BidOut}
		}
		c.Bids = append(c.Bids, bid)
	}
	return impl.ClockOut{Clock: c}
}

func lowerByHand(c impl.Clock) int64 {
	if c.Step > c.Price {
		return 0
	}
	return c.Price - c.Step
}

// offerByHand: what ClockOffer is to tell.
func offerByHand(c impl.Clock, id int64) int64 {
	if clockRightByHand(c) {
		for i, s := range c.Table.Stations {
			if s.Id == id && c.Bids[i].State == impl.BidActive {
				return s.Score * lowerByHand(c)
			}
		}
	}
	return -1
}

func activeByHand(c impl.Clock) []int64 {
	ids := []int64(nil)
	for _, b := range c.Bids {
		if b.State == impl.BidActive && clockRightByHand(c) {
			ids = append(ids, b.Id)
		}
	}
	return ids
}

func totalByHand(c impl.Clock) int64 {
	total := int64(0)
	for _, b := range c.Bids {
		if b.State != impl.BidOut && clockRightByHand(c) {
			total += b.Price
		}
	}
	return total
}

// roundByHand: what ClockRound is to tell.
func roundByHand(c impl.Clock, stays []int64) impl.ClockOut {
	if len(stays) > impl.MaxList {
		return refusedClock(impl.ErrSize)
	}
	if !clockRightByHand(c) || !idsRightByHand(c.Table, stays) {
		return refusedClock(impl.ErrForm)
	}
	if len(activeByHand(c)) == 0 {
		return refusedClock(impl.ErrState)
	}
	out := impl.ClockOut{Clock: keptClock(c), Rounds: 1}
	bids := out.Clock.Bids
	for i, b := range bids {
		if b.State != impl.BidActive {
			continue
		}
		asked := oneAskedByHand(c.Table, c.Top, out.Clock.Plan, b.Id, c.Budget)
		switch {
		case asked.Verdict != impl.Yes:
			bids[i].State = impl.BidFrozen
		case slices.Contains(stays, b.Id):
			bids[i].Price = offerByHand(c, b.Id)
		default:
			bids[i].State, bids[i].Price = impl.BidOut, 0
			out.Clock.Plan = asked.Plan
		}
	}
	out.Clock.Price = lowerByHand(c)
	for i, b := range bids {
		if b.State == impl.BidActive && out.Clock.Price == 0 {
			bids[i].State = impl.BidFrozen
		}
		if bids[i].State != c.Bids[i].State && bids[i].State == impl.BidFrozen {
			out.Froze = append(out.Froze, b.Id)
		}
		if bids[i].State != c.Bids[i].State && bids[i].State == impl.BidOut {
			out.Exits = append(out.Exits, b.Id)
		}
	}
	return out
}

// runBy: rounds one by one, by a function for one round.
func runBy(c impl.Clock, list [][]int64, round func(impl.Clock, []int64) impl.ClockOut) impl.ClockOut {
	out := impl.ClockOut{Clock: c}
	for _, stays := range list {
		if len(activeByHand(out.Clock)) == 0 {
			break
		}
		next := round(out.Clock, stays)
		out.Clock = next.Clock
		out.Froze = append(out.Froze, next.Froze...)
		out.Exits = append(out.Exits, next.Exits...)
		out.Rounds += next.Rounds
	}
	slices.Sort(out.Froze)
	slices.Sort(out.Exits)
	return out
}

// runByHand: what ClockRun is to tell.
func runByHand(c impl.Clock, list [][]int64) impl.ClockOut {
	if len(list) > impl.MaxList {
		return refusedClock(impl.ErrSize)
	}
	if !clockRightByHand(c) {
		return refusedClock(impl.ErrForm)
	}
	for _, stays := range list {
		if !idsRightByHand(c.Table, stays) {
			return refusedClock(impl.ErrForm)
		}
	}
	return runBy(c, list, roundByHand)
}

func refusedClock(code int64) impl.ClockOut {
	return impl.ClockOut{Code: code}
}

// keptClock: a copy that shares no memory.
func keptClock(c impl.Clock) impl.Clock {
	c.Table, c.Bids, c.Plan = tableKept(c.Table), slices.Clone(c.Bids), slices.Clone(c.Plan)
	return c
}

func keptClockOut(out impl.ClockOut) impl.ClockOut {
	out.Clock, out.Froze, out.Exits = keptClock(out.Clock), slices.Clone(out.Froze), slices.Clone(out.Exits)
	return out
}

func clocksAlike(a impl.Clock, b impl.Clock) bool {
	return tablesAlike(a.Table, b.Table) && a.Top == b.Top && a.Price == b.Price && a.Step == b.Step && a.Budget == b.Budget &&
		slices.Equal(a.Bids, b.Bids) && slices.Equal(a.Plan, b.Plan)
}

// wantClock: an empty list and none are the same.
func wantClock(t *testing.T, what string, got impl.ClockOut, want impl.ClockOut) {
	t.Helper()
	if !clocksAlike(got.Clock, want.Clock) || !slices.Equal(got.Froze, want.Froze) || !slices.Equal(got.Exits, want.Exits) ||
		got.Rounds != want.Rounds || got.Code != want.Code {
		t.Errorf("%.900s: got %+v, want %+v", what, got, want)
	}
}

func wantOffer(t *testing.T, what string, c impl.Clock, id int64, want int64) {
	t.Helper()
	if got := impl.ClockOffer(c, id); got != want {
		t.Errorf("%.900s: %d is offered %d, want %d", what, id, got, want)
	}
}

// wantTold: what is told of a clock, as by hand.
func wantTold(t *testing.T, what string, c impl.Clock) {
	t.Helper()
	if got, want := impl.ClockRight(c), clockRightByHand(c); got != want {
		t.Errorf("%.900s: right is told as %v", what, got)
	}
	if got, want := impl.ClockTotal(c), totalByHand(c); got != want {
		t.Errorf("%.900s: the total is told as %d, want %d", what, got, want)
	}
	wantNumbers(t, what, impl.ClockActive(c), activeByHand(c))
	for _, id := range idsAround(c.Table) {
		wantOffer(t, what, c, id, offerByHand(c, id))
	}
}

// bidsOf: Id, State, Price, one Bid behind the other.
func bidsOf(numbers ...int64) []impl.Bid {
	bids := []impl.Bid(nil)
	for i := 0; i < len(numbers); i += 3 {
		bids = append(bids, impl.Bid{Id: numbers[i], State: numbers[i+1], Price: numbers[i+2]})
	}
	return bids
}

// fourClock: the four Stations; 3 is on the air on 4, the others are active at a price of 10.
func fourClock() impl.Clock {
	return impl.Clock{Table: fourStations(), Top: 9, Price: 10, Step: 4, Budget: 100, Bids: bidsOf(3, 3, 0, 8, 1, 20, 20, 1, 30, 21, 1, 40), Plan: placesOf(3, 4)}
}

// withClock: fourClock, but changed.
func withClock(change func(c *impl.Clock)) impl.Clock {
	c := fourClock()
	change(&c)
	return c
}

// tightClock: Stations 1 to 3 may not have the same channel; 1 is on 2, where it could also have 3; 2 needs it moved; 3 could have 2 or 3.
func tightClock(budget int64) impl.Clock {
	return impl.Clock{
		Table:  crowdOf([]int64{2, 3}, []int64{2}, []int64{2, 3}),
		Top:    3,
		Price:  10,
		Step:   4,
		Budget: budget,
		Bids:   bidsOf(1, 3, 0, 2, 1, 20, 3, 1, 30),
		Plan:   placesOf(1, 2),
	}
}

func TestClockOpenAtItsEdges(t *testing.T) {
	four := fourStations()
	opened := func(price int64, step int64, top int64, bids []impl.Bid, plan []impl.Place) impl.ClockOut {
		return impl.ClockOut{Clock: impl.Clock{Table: four, Top: top, Price: price, Step: step, Budget: 100, Bids: bids, Plan: plan}}
	}
	form, infeasible := refusedClock(impl.ErrForm), refusedClock(impl.ErrInfeasible)
	all := []int64{3, 8, 20, 21}
	active := bidsOf(3, 1, 10, 8, 1, 20, 20, 1, 30, 21, 1, 40)
	for _, c := range []struct {
		what  string
		top   int64
		price int64
		step  int64
		must  []int64
		want  impl.ClockOut
	}{
		{"one must stay", 9, 10, 4, []int64{3}, opened(10, 4, 9, bidsOf(3, 3, 0, 8, 1, 20, 20, 1, 30, 21, 1, 40), placesOf(3, 4))},
		{"nobody must stay", 9, 10, 4, nil, opened(10, 4, 9, active, nil)},
		{"nobody, an empty list", 9, 10, 4, []int64{}, opened(10, 4, 9, active, nil)},
		{"all must stay", 51, 10, 4, all, opened(10, 4, 51, bidsOf(3, 3, 0, 8, 3, 0, 20, 3, 0, 21, 3, 0), placesOf(3, 4, 8, 3, 20, 6, 21, 6))},
		{"the last ones", 9, 10, 4, []int64{20, 21}, opened(10, 4, 9, bidsOf(3, 1, 10, 8, 1, 20, 20, 3, 0, 21, 3, 0), placesOf(20, 4, 21, 6))},
		{"a price of 0", 9, 0, 4, []int64{3}, opened(0, 4, 9, bidsOf(3, 3, 0, 8, 1, 0, 20, 1, 0, 21, 1, 0), placesOf(3, 4))},
		{"a price of 1", 9, 1, 1, nil, opened(1, 1, 9, bidsOf(3, 1, 1, 8, 1, 2, 20, 1, 3, 21, 1, 4), nil)},
		{"a price of MaxPrice", 9, 1000000, 4, nil, opened(1000000, 4, 9, bidsOf(3, 1, 1000000, 8, 1, 2000000, 20, 1, 3000000, 21, 1, 4000000), nil)},
		{"a price of one more", 9, 1000001, 4, nil, form},
		{"a price below 0", 9, -1, 4, nil, form},
		{"the least price", 9, math.MinInt64, 4, nil, form},
		{"the greatest price", 9, math.MaxInt64, 4, nil, form},
		{"a step of 0", 9, 10, 0, nil, form},
		{"a step of 0, a price of 0", 9, 0, 0, nil, form},
		{"a step below 0", 9, 10, -1, nil, form},
		{"a step of 1", 9, 10, 1, nil, opened(10, 1, 9, active, nil)},
		{"a step as great as the price", 9, 10, 10, nil, opened(10, 10, 9, active, nil)},
		{"a step greater than the price", 9, 10, 11, nil, opened(10, 11, 9, active, nil)},
		{"a step of MaxPrice", 9, 10, 1000000, nil, opened(10, 1000000, 9, active, nil)},
		{"a step of one more", 9, 10, 1000001, nil, form},
		{"the least step", 9, 10, math.MinInt64, nil, form},
		{"the greatest step", 9, 10, math.MaxInt64, nil, form},
		{"a top of LowChannel, where nobody has a channel", 2, 10, 4, nil, opened(10, 4, 2, active, nil)},
		{"a top of LowChannel, must", 2, 10, 4, []int64{3}, infeasible},
		{"a top below LowChannel", 1, 10, 4, nil, form},
		{"a top below LowChannel, must", 1, 10, 4, []int64{3}, form},
		{"a top of 0", 0, 10, 4, nil, form},
		{"a top below 0", -2, 10, 4, nil, form},
		{"a top of HighChannel", 51, 10, 4, []int64{21}, opened(10, 4, 51, bidsOf(3, 1, 10, 8, 1, 20, 20, 1, 30, 21, 3, 0), placesOf(21, 6))},
		{"a top above HighChannel", 52, 10, 4, nil, form},
		{"the least top", math.MinInt64, 10, 4, nil, form},
		{"the greatest top", math.MaxInt64, 10, 4, nil, form},
		{"must that can have no plan", 5, 10, 4, []int64{3, 20}, infeasible},
		{"must of which one has no channel", 5, 10, 4, []int64{8, 21}, infeasible},
		{"must that has a plan at a top of one more", 6, 10, 4, []int64{3, 20}, opened(10, 4, 6, bidsOf(3, 3, 0, 8, 1, 20, 20, 3, 0, 21, 1, 40), placesOf(3, 4, 20, 6))},
		{"must that can have no plan, and a wrong step", 5, 10, 0, []int64{3, 20}, form},
	} {
		wantClock(t, c.what, impl.ClockOpen(four, c.top, c.price, c.step, 100, c.must), c.want)
		wantClock(t, c.what+", by hand", clockOpenByHand(four, c.top, c.price, c.step, 100, c.must), c.want)
		if told := impl.ClockRight(c.want.Clock); told != (c.want.Code == impl.OK) {
			t.Errorf("%s: what is opened is told to be right: %v", c.what, told)
		}
	}
}

func TestClockOpenOfScoresAtTheirEdges(t *testing.T) {
	for _, score := range []int64{1, 2, 999, 1000} {
		for _, price := range []int64{0, 1, 999999, 1000000} {
			table := oneStation(7, score, 2)
			c := impl.ClockOpen(table, 2, price, 1, 1, nil)
			wantClock(t, fmt.Sprint("Score ", score, " at ", price), c, impl.ClockOut{Clock: impl.Clock{Table: table, Top: 2, Price: price, Step: 1, Budget: 1, Bids: bidsOf(7, 1, score*price)}})
			wantTold(t, fmt.Sprint("Score ", score, " at ", price), c.Clock)
		}
	}
	for _, score := range []int64{0, -1, 1001} {
		wantClock(t, fmt.Sprint("Score ", score), impl.ClockOpen(oneStation(7, score, 2), 2, 10, 1, 1, nil), refusedClock(impl.ErrForm))
	}
	// As many as there may be, of the greatest Score, at the greatest price.
	last := longestTable()
	c := impl.ClockOpen(last, 51, impl.MaxPrice, 1, impl.MaxSolve, nil).Clock
	if got := impl.ClockTotal(c); got != 12*maxBid {
		t.Errorf("the greatest total is told as %d", got)
	}
	wantOffer(t, "the greatest offer", c, 999, 1000*(impl.MaxPrice-1))
}

func TestClockOpenWithinItsBudget(t *testing.T) {
	four := fourStations()
	form, infeasible := refusedClock(impl.ErrForm), refusedClock(impl.ErrInfeasible)
	for _, budget := range wrongBudgets() {
		wantClock(t, fmt.Sprint("within ", budget), impl.ClockOpen(four, 9, 10, 4, budget, nil), form)
		wantClock(t, fmt.Sprint("within ", budget), impl.ClockOpen(four, 2, 10, 4, budget, []int64{3}), form)
	}
	// Even nobody is only told to have a plan by a step.
	wantClock(t, "nobody within 0", impl.ClockOpen(four, 9, 10, 4, 0, nil), infeasible)
	for _, c := range []struct {
		what   string
		table  impl.Table
		must   []int64
		budget int64
		code   int64
	}{
		{"nobody within 1", four, nil, 1, impl.OK},
		{"one within 1", four, []int64{3}, 1, impl.ErrInfeasible},
		{"one within as many as it takes", four, []int64{3}, impl.AskSteps(four, 9, []int64{3}), impl.OK},
		{"one within one less", four, []int64{3}, impl.AskSteps(four, 9, []int64{3}) - 1, impl.ErrInfeasible},
		{"one within 0", four, []int64{3}, 0, impl.ErrInfeasible},
		{"MaxSolve steps within MaxSolve", longYes(2), channels(1, 9), impl.MaxSolve, impl.OK},
		{"one step less within MaxSolve", longYes(1), channels(1, 8), impl.MaxSolve, impl.OK},
		{"MaxSolve steps within one less", longYes(2), channels(1, 9), impl.MaxSolve - 1, impl.ErrInfeasible},
		{"more than MaxSolve steps", longYes(3), channels(1, 10), impl.MaxSolve, impl.ErrInfeasible},
		{"MaxSolve steps within one more", longYes(2), channels(1, 9), impl.MaxSolve + 1, impl.ErrForm},
		{"no plan, shown", longNo(), channels(1, 7), impl.MaxSolve, impl.ErrInfeasible},
		{"no plan, not shown", longNo(), channels(1, 7), 10, impl.ErrInfeasible},
	} {
		got := impl.ClockOpen(c.table, 9, 10, 4, c.budget, c.must)
		if c.table.Stations[0].Domain[len(c.table.Stations[0].Domain)-1] == 40 {
			// The first Station of longYes needs its last channel.
			got = impl.ClockOpen(c.table, 51, 10, 4, c.budget, c.must)
		}
		if got.Code != c.code {
			t.Errorf("%s: the code is %d", c.what, got.Code)
		}
		if c.code != impl.OK {
			wantClock(t, c.what, got, refusedClock(c.code))
		} else {
			wantPlaces(t, c.what, got.Clock.Plan, impl.AskAll(c.table, got.Clock.Top, c.must, impl.MaxSolve).Plan)
		}
	}
}

func TestClockOpenOfWrongThings(t *testing.T) {
	form, size := refusedClock(impl.ErrForm), refusedClock(impl.ErrSize)
	four := fourStations()
	for _, must := range [][]int64{{0}, {-3}, {4}, {22}, {3, 4}, {3, 3}, {8, 3}, {3, 20, 8}, {3, 8, 20, 21, 21}, {math.MinInt64, 3}, {3, math.MaxInt64}} {
		wantClock(t, fmt.Sprint("must ", must), impl.ClockOpen(four, 9, 10, 4, 100, must), form)
	}
	for what, table := range wrongTables() {
		wantClock(t, what, impl.ClockOpen(table, 9, 10, 4, 100, nil), form)
		if len(table.Stations) <= impl.MaxList {
			wantClock(t, what, impl.ClockOpen(table, 9, 10, 4, 100, idsByHand(table)), form)
		}
		wantClock(t, what+", must that is too long", impl.ClockOpen(table, 9, 10, 4, 100, make([]int64, impl.MaxList+1)), size)
	}
	wantClock(t, "MaxList Ids", impl.ClockOpen(four, 9, 10, 4, 100, channels(1, impl.MaxList)), form)
	wantClock(t, "one more", impl.ClockOpen(four, 9, 10, 4, 100, channels(1, impl.MaxList+1)), size)
	wantClock(t, "one more, and no number right", impl.ClockOpen(four, 0, -1, 0, -1, channels(1, impl.MaxList+1)), size)
}

// rightClocks: ordinary ones and those at the edges of what is right.
func rightClocks() map[string]impl.Clock {
	return map[string]impl.Clock{
		"ordinary":               fourClock(),
		"nobody out":             withClock(func(c *impl.Clock) { c.Bids[0].State, c.Plan = impl.BidActive, nil }),
		"nobody out, empty Plan": withClock(func(c *impl.Clock) { c.Bids[0].State, c.Plan = impl.BidWon, []impl.Place{} }),
		"frozen":                 withClock(func(c *impl.Clock) { c.Bids[1].State = impl.BidFrozen }),
		"won":                    withClock(func(c *impl.Clock) { c.Bids[1].State = impl.BidWon }),
		"all frozen":             withClock(func(c *impl.Clock) { c.Bids[1].State, c.Bids[2].State, c.Bids[3].State = 2, 2, 2 }),
		"all out": withClock(func(c *impl.Clock) {
			c.Bids, c.Plan = bidsOf(3, 3, 0, 8, 3, 0, 20, 3, 0, 21, 3, 0), placesOf(3, 4, 8, 3, 20, 6, 21, 6)
		}),
		"on another channel":          withClock(func(c *impl.Clock) { c.Plan = placesOf(3, 8) }),
		"out at a Price":              withClock(func(c *impl.Clock) { c.Bids[0].Price = 77 }),
		"Price 0":                     withClock(func(c *impl.Clock) { c.Price = 0 }),
		"MaxPrice":                    withClock(func(c *impl.Clock) { c.Price = impl.MaxPrice }),
		"Step 1":                      withClock(func(c *impl.Clock) { c.Step = 1 }),
		"Step MaxPrice":               withClock(func(c *impl.Clock) { c.Step = impl.MaxPrice }),
		"Budget 0":                    withClock(func(c *impl.Clock) { c.Budget = 0 }),
		"Budget MaxSolve":             withClock(func(c *impl.Clock) { c.Budget = impl.MaxSolve }),
		"Top at the channel in Plan":  withClock(func(c *impl.Clock) { c.Top = 4 }),
		"Top LowChannel, nobody out":  withClock(func(c *impl.Clock) { c.Top, c.Bids[0].State, c.Plan = 2, 1, nil }),
		"Top HighChannel":             withClock(func(c *impl.Clock) { c.Top = 51 }),
		"a Bid's Price 0":             withClock(func(c *impl.Clock) { c.Bids[3].Price = 0 }),
		"a Bid's Price the greatest":  withClock(func(c *impl.Clock) { c.Bids[3].Price = maxBid }),
		"a Plan that could be denser": withClock(func(c *impl.Clock) { c.Bids[2].State, c.Plan = 3, placesOf(3, 4, 20, 9) }),
	}
}

// wrongClocks: clocks that are not right, each by one thing alone.
func wrongClocks() map[string]impl.Clock {
	all := map[string]impl.Clock{
		"nothing":                     {},
		"no Bids":                     withClock(func(c *impl.Clock) { c.Bids = nil }),
		"a Bid too few":               withClock(func(c *impl.Clock) { c.Bids = c.Bids[:3] }),
		"the first Bid gone":          withClock(func(c *impl.Clock) { c.Bids, c.Plan = c.Bids[1:], nil }),
		"a Bid too many":              withClock(func(c *impl.Clock) { c.Bids = append(c.Bids, impl.Bid{Id: 22, State: 1}) }),
		"a Bid twice":                 withClock(func(c *impl.Clock) { c.Bids = append(c.Bids, c.Bids[3]) }),
		"a Bid in place of another":   withClock(func(c *impl.Clock) { c.Bids[2] = c.Bids[1] }),
		"Bids out of order":           withClock(func(c *impl.Clock) { c.Bids[1], c.Bids[2] = c.Bids[2], c.Bids[1] }),
		"all Bids falling":            withClock(func(c *impl.Clock) { slices.Reverse(c.Bids) }),
		"a Bid of no Station":         withClock(func(c *impl.Clock) { c.Bids[3].Id = 22 }),
		"a Station in no Bid":         withClock(func(c *impl.Clock) { c.Table.Stations[3].Id = 22 }),
		"a Station too many":          withClock(func(c *impl.Clock) { c.Table.Stations = append(c.Table.Stations, oneStation(22, 1, 2).Stations...) }),
		"a Plan without who is out":   withClock(func(c *impl.Clock) { c.Plan = nil }),
		"out, and not in the Plan":    withClock(func(c *impl.Clock) { c.Bids[1].State = impl.BidOut }),
		"in the Plan, and active":     withClock(func(c *impl.Clock) { c.Plan = placesOf(3, 4, 8, 3) }),
		"in the Plan, and frozen":     withClock(func(c *impl.Clock) { c.Bids[0].State = impl.BidFrozen }),
		"in the Plan, and won":        withClock(func(c *impl.Clock) { c.Bids[0].State = impl.BidWon }),
		"another one in the Plan":     withClock(func(c *impl.Clock) { c.Plan = placesOf(8, 3) }),
		"one of no Station in Plan":   withClock(func(c *impl.Clock) { c.Plan = placesOf(4, 4) }),
		"a place twice":               withClock(func(c *impl.Clock) { c.Plan = placesOf(3, 4, 3, 4) }),
		"a channel not of its Domain": withClock(func(c *impl.Clock) { c.Plan = placesOf(3, 9) }),
		"a channel of 0":              withClock(func(c *impl.Clock) { c.Plan = placesOf(3, 0) }),
		"a channel above Top":         withClock(func(c *impl.Clock) { c.Top = 3 }),
		"channels too near":           withClock(func(c *impl.Clock) { c.Bids[2].State, c.Plan = 3, placesOf(3, 4, 20, 5) }),
		"channels alike":              withClock(func(c *impl.Clock) { c.Bids[1].State, c.Plan = 3, placesOf(3, 4, 8, 4) }),
		"a Plan that falls":           withClock(func(c *impl.Clock) { c.Bids[1].State, c.Plan = 3, placesOf(8, 3, 3, 4) }),
		"MaxList places":              withClock(func(c *impl.Clock) { c.Plan = make([]impl.Place, impl.MaxList) }),
		"more than MaxList places":    withClock(func(c *impl.Clock) { c.Plan = make([]impl.Place, impl.MaxList+1) }),
		"more than MaxList Bids":      withClock(func(c *impl.Clock) { c.Bids = make([]impl.Bid, impl.MaxList+1) }),
	}
	with := func(what string, n int64, change func(c *impl.Clock)) {
		all[fmt.Sprint(what, " ", n)] = withClock(change)
	}
	for at := range 4 {
		for _, n := range []int64{-1, 0, 5, 259, math.MinInt64, math.MaxInt64} {
			with(fmt.Sprint("State of ", at), n, func(c *impl.Clock) { c.Bids[at].State = n })
		}
		for _, n := range []int64{-1, maxBid + 1, math.MinInt64, math.MaxInt64} {
			with(fmt.Sprint("Price of ", at), n, func(c *impl.Clock) { c.Bids[at].Price = n })
		}
		for _, n := range []int64{0, -1, 1000, math.MinInt64, math.MaxInt64} {
			with(fmt.Sprint("Id of ", at), n, func(c *impl.Clock) { c.Bids[at].Id = n })
		}
	}
	for _, n := range []int64{-1, impl.MaxPrice + 1, math.MinInt64, math.MaxInt64} {
		with("Price", n, func(c *impl.Clock) { c.Price = n })
		with("Step", n, func(c *impl.Clock) { c.Step = n })
	}
	with("Step", 0, func(c *impl.Clock) { c.Step = 0 })
	for _, n := range wrongBudgets() {
		with("Budget", n, func(c *impl.Clock) { c.Budget = n })
	}
	for _, n := range []int64{math.MinInt64, -1, 0, 1, 52, 53, 1000, math.MaxInt64} {
		with("Top", n, func(c *impl.Clock) { c.Top, c.Bids[0].State, c.Plan = n, 1, nil })
		with("Top beside a Plan", n, func(c *impl.Clock) { c.Top = n })
	}
	for what, table := range wrongTables() {
		c := impl.Clock{Table: table, Top: 51, Price: 10, Step: 4, Budget: 100}
		for _, s := range table.Stations {
			c.Bids = append(c.Bids, impl.Bid{Id: s.Id, State: impl.BidActive, Price: 10})
		}
		all["Table: "+what] = c
	}
	return all
}

func TestClockRightAtItsEdges(t *testing.T) {
	for what, c := range rightClocks() {
		if !impl.ClockRight(c) || !clockRightByHand(c) {
			t.Errorf("%s: is told not to be right", what)
		}
		wantTold(t, what, c)
	}
	for what, c := range wrongClocks() {
		if impl.ClockRight(c) || clockRightByHand(c) {
			t.Errorf("%s: is told to be right", what)
		}
	}
}

// A clock that is not right: each call says so, whatever else it is given, but for a list that is too long.
func TestWrongClocksAreRefused(t *testing.T) {
	form, size := refusedClock(impl.ErrForm), refusedClock(impl.ErrSize)
	for what, c := range wrongClocks() {
		for _, id := range []int64{math.MinInt64, -1, 0, 1, 3, 7, 8, 20, 21, 22, 999, math.MaxInt64} {
			wantOffer(t, what, c, id, -1)
		}
		if got := impl.ClockTotal(c); got != 0 {
			t.Errorf("%s: the total is told as %d", what, got)
		}
		wantNumbers(t, what, impl.ClockActive(c), nil)
		for _, stays := range [][]int64{nil, {}, {3}, {8, 20}, {20, 8}, {0}} {
			wantClock(t, what, impl.ClockRound(c, stays), form)
			wantClock(t, what, impl.ClockRun(c, [][]int64{stays}), form)
		}
		wantClock(t, what, impl.ClockRound(c, make([]int64, impl.MaxList+1)), size)
		wantClock(t, what, impl.ClockRun(c, nil), form)
		wantClock(t, what, impl.ClockRun(c, make([][]int64, impl.MaxList)), form)
		wantClock(t, what, impl.ClockRun(c, make([][]int64, impl.MaxList+1)), size)
		wantClock(t, what, impl.ClockRun(c, [][]int64{make([]int64, impl.MaxList+1)}), form)
	}
}

func TestClockOfferAtItsEdges(t *testing.T) {
	for _, c := range []struct {
		what  string
		clock impl.Clock
		id    int64
		want  int64
	}{
		{"active", fourClock(), 8, 12},
		{"the last one", fourClock(), 21, 24},
		{"out", fourClock(), 3, -1},
		{"frozen", withClock(func(c *impl.Clock) { c.Bids[1].State = impl.BidFrozen }), 8, -1},
		{"won", withClock(func(c *impl.Clock) { c.Bids[1].State = impl.BidWon }), 8, -1},
		{"beside one that is frozen", withClock(func(c *impl.Clock) { c.Bids[1].State = impl.BidFrozen }), 20, 18},
		{"Id 0", fourClock(), 0, -1},
		{"an Id below 0", fourClock(), -8, -1},
		{"an Id of no Station", fourClock(), 9, -1},
		{"the least Id", fourClock(), math.MinInt64, -1},
		{"the greatest Id", fourClock(), math.MaxInt64, -1},
		{"whatever its own Price is", withClock(func(c *impl.Clock) { c.Bids[1].Price = maxBid }), 8, 12},
		{"a Price less by its Step is 0", withClock(func(c *impl.Clock) { c.Price = 4 }), 8, 0},
		{"a Price less by its Step is 1", withClock(func(c *impl.Clock) { c.Price = 5 }), 21, 4},
		{"a Step greater than the Price", withClock(func(c *impl.Clock) { c.Price = 3 }), 8, 0},
		{"a Step much greater than the Price", withClock(func(c *impl.Clock) { c.Step = impl.MaxPrice }), 8, 0},
		{"a Price of 0", withClock(func(c *impl.Clock) { c.Price = 0 }), 8, 0},
		{"a Price of MaxPrice", withClock(func(c *impl.Clock) { c.Price, c.Step = impl.MaxPrice, 1 }), 21, 3999996},
		{"who could have no channel", withClock(func(c *impl.Clock) { c.Top = 4 }), 21, 24},
		{"a clock that is not right", withClock(func(c *impl.Clock) { c.Plan = nil }), 8, -1},
	} {
		wantOffer(t, c.what, c.clock, c.id, c.want)
		if got := offerByHand(c.clock, c.id); got != c.want {
			t.Errorf("%s, by hand: got %d, want %d", c.what, got, c.want)
		}
	}
}

func TestClockTotalAtItsEdges(t *testing.T) {
	for _, c := range []struct {
		what  string
		clock impl.Clock
		want  int64
	}{
		{"active ones", fourClock(), 90},
		{"a frozen one", withClock(func(c *impl.Clock) { c.Bids[1].State = impl.BidFrozen }), 90},
		{"a won one", withClock(func(c *impl.Clock) { c.Bids[2].State = impl.BidWon }), 90},
		{"one of each", withClock(func(c *impl.Clock) { c.Bids[1].State, c.Bids[2].State = impl.BidFrozen, impl.BidWon }), 90},
		{"won ones alone", withClock(func(c *impl.Clock) { c.Bids[1].State, c.Bids[2].State, c.Bids[3].State = 4, 4, 4 }), 90},
		{"an out one at a Price", withClock(func(c *impl.Clock) { c.Bids[0].Price = 77 }), 90},
		{"Prices of 0", withClock(func(c *impl.Clock) { c.Bids = bidsOf(3, 3, 0, 8, 1, 0, 20, 2, 0, 21, 4, 0) }), 0},
		{"the greatest Prices", withClock(func(c *impl.Clock) { c.Bids = bidsOf(3, 3, 0, 8, 1, maxBid, 20, 2, maxBid, 21, 4, maxBid) }), 3 * maxBid},
		{"all out", rightClocks()["all out"], 0},
		{"a clock that is not right", withClock(func(c *impl.Clock) { c.Step = 0 }), 0},
	} {
		if got := impl.ClockTotal(c.clock); got != c.want {
			t.Errorf("%s: got %d, want %d", c.what, got, c.want)
		}
	}
}

func TestClockActiveAtItsEdges(t *testing.T) {
	wantNumbers(t, "ordinary", impl.ClockActive(fourClock()), []int64{8, 20, 21})
	wantNumbers(t, "one frozen, one won", impl.ClockActive(withClock(func(c *impl.Clock) { c.Bids[1].State, c.Bids[3].State = 2, 4 })), []int64{20})
	wantNumbers(t, "all", impl.ClockActive(rightClocks()["nobody out"]), []int64{3, 8, 20, 21})
	wantNumbers(t, "none", impl.ClockActive(rightClocks()["all frozen"]), nil)
	wantNumbers(t, "all out", impl.ClockActive(rightClocks()["all out"]), nil)
	wantNumbers(t, "a clock that is not right", impl.ClockActive(withClock(func(c *impl.Clock) { c.Bids[0].Price = -1 })), nil)
}

// behind: a clock behind so many rounds, with other Bids, another Plan, another Price.
func behind(c impl.Clock, rounds int64, price int64, bids []impl.Bid, plan []impl.Place, froze []int64, exits []int64) impl.ClockOut {
	c.Price, c.Bids, c.Plan = price, bids, plan
	return impl.ClockOut{Clock: c, Froze: froze, Exits: exits, Rounds: rounds}
}

func TestClockRoundAtItsEdges(t *testing.T) {
	four, low := fourClock(), withClock(func(c *impl.Clock) { c.Top = 4 })
	last := withClock(func(c *impl.Clock) { c.Price = 4 })
	nought := withClock(func(c *impl.Clock) { c.Price = 0 })
	short := withClock(func(c *impl.Clock) { c.Price = 3 })
	mixed := withClock(func(c *impl.Clock) { c.Bids[1].State, c.Bids[2].State = impl.BidFrozen, impl.BidWon })
	all := []int64{3, 8, 20, 21}
	for _, c := range []struct {
		what  string
		clock impl.Clock
		stays []int64
		want  impl.ClockOut
	}{
		{"one stays", four, []int64{20}, behind(four, 1, 6, bidsOf(3, 3, 0, 8, 3, 0, 20, 1, 18, 21, 3, 0), placesOf(3, 4, 8, 3, 21, 6), nil, []int64{8, 21})},
		{"nobody stays", four, nil, behind(four, 1, 6, bidsOf(3, 3, 0, 8, 3, 0, 20, 3, 0, 21, 3, 0), placesOf(3, 4, 8, 3, 20, 6, 21, 6), nil, []int64{8, 20, 21})},
		{"nobody stays, an empty list", four, []int64{}, behind(four, 1, 6, bidsOf(3, 3, 0, 8, 3, 0, 20, 3, 0, 21, 3, 0), placesOf(3, 4, 8, 3, 20, 6, 21, 6), nil, []int64{8, 20, 21})},
		{"all stay", four, []int64{8, 20, 21}, behind(four, 1, 6, bidsOf(3, 3, 0, 8, 1, 12, 20, 1, 18, 21, 1, 24), placesOf(3, 4), nil, nil)},
		{"all stay, and one that is out", four, all, behind(four, 1, 6, bidsOf(3, 3, 0, 8, 1, 12, 20, 1, 18, 21, 1, 24), placesOf(3, 4), nil, nil)},
		{"who is out alone", four, []int64{3}, behind(four, 1, 6, bidsOf(3, 3, 0, 8, 3, 0, 20, 3, 0, 21, 3, 0), placesOf(3, 4, 8, 3, 20, 6, 21, 6), nil, []int64{8, 20, 21})},
		{"who is frozen and who has won", mixed, all, behind(mixed, 1, 6, bidsOf(3, 3, 0, 8, 2, 20, 20, 4, 30, 21, 1, 24), placesOf(3, 4), nil, nil)},
		{"nobody stays beside a frozen and a won one", mixed, nil, behind(mixed, 1, 6, bidsOf(3, 3, 0, 8, 2, 20, 20, 4, 30, 21, 3, 0), placesOf(3, 4, 21, 6), nil, []int64{21})},
		{"two that could have no channel, both in stays", low, []int64{8, 20, 21}, behind(low, 1, 6, bidsOf(3, 3, 0, 8, 1, 12, 20, 2, 30, 21, 2, 40), placesOf(3, 4), []int64{20, 21}, nil)},
		{"two that could have no channel, none in stays", low, nil, behind(low, 1, 6, bidsOf(3, 3, 0, 8, 3, 0, 20, 2, 30, 21, 2, 40), placesOf(3, 4, 8, 3), []int64{20, 21}, []int64{8})},
		{"Price comes to 0, all stay", last, all, behind(last, 1, 0, bidsOf(3, 3, 0, 8, 2, 0, 20, 2, 0, 21, 2, 0), placesOf(3, 4), []int64{8, 20, 21}, nil)},
		{"Price comes to 0, one stays", last, []int64{20}, behind(last, 1, 0, bidsOf(3, 3, 0, 8, 3, 0, 20, 2, 0, 21, 3, 0), placesOf(3, 4, 8, 3, 21, 6), []int64{20}, []int64{8, 21})},
		{"Price comes to 0, nobody stays", last, nil, behind(last, 1, 0, bidsOf(3, 3, 0, 8, 3, 0, 20, 3, 0, 21, 3, 0), placesOf(3, 4, 8, 3, 20, 6, 21, 6), nil, []int64{8, 20, 21})},
		{"a Step greater than the Price", short, []int64{8, 21}, behind(short, 1, 0, bidsOf(3, 3, 0, 8, 2, 0, 20, 3, 0, 21, 2, 0), placesOf(3, 4, 20, 6), []int64{8, 21}, []int64{20})},
		{"a Price of 0", nought, all, behind(nought, 1, 0, bidsOf(3, 3, 0, 8, 2, 0, 20, 2, 0, 21, 2, 0), placesOf(3, 4), []int64{8, 20, 21}, nil)},
		{"a Price of 0, nobody stays", nought, nil, behind(nought, 1, 0, bidsOf(3, 3, 0, 8, 3, 0, 20, 3, 0, 21, 3, 0), placesOf(3, 4, 8, 3, 20, 6, 21, 6), nil, []int64{8, 20, 21})},
		{"Stations that are wrong", four, []int64{4}, refusedClock(impl.ErrForm)},
		{"an Id of 0", four, []int64{0}, refusedClock(impl.ErrForm)},
		{"an Id below 0", four, []int64{-8}, refusedClock(impl.ErrForm)},
		{"an Id twice", four, []int64{8, 8}, refusedClock(impl.ErrForm)},
		{"Ids that fall", four, []int64{20, 8}, refusedClock(impl.ErrForm)},
		{"one Id too many", four, []int64{3, 8, 20, 21, 22}, refusedClock(impl.ErrForm)},
		{"MaxList Ids", four, channels(1, impl.MaxList), refusedClock(impl.ErrForm)},
		{"more than MaxList Ids", four, channels(1, impl.MaxList+1), refusedClock(impl.ErrSize)},
		{"no Bid is active", rightClocks()["all frozen"], nil, refusedClock(impl.ErrState)},
		{"no Bid is active, all stay", rightClocks()["all frozen"], all, refusedClock(impl.ErrState)},
		{"all out", rightClocks()["all out"], nil, refusedClock(impl.ErrState)},
		{"no Bid is active, wrong Ids", rightClocks()["all out"], []int64{4}, refusedClock(impl.ErrForm)},
		{"no Bid is active, more than MaxList Ids", rightClocks()["all out"], make([]int64, impl.MaxList+1), refusedClock(impl.ErrSize)},
	} {
		wantClock(t, c.what, impl.ClockRound(c.clock, c.stays), c.want)
		wantClock(t, c.what+", by hand", roundByHand(c.clock, c.stays), c.want)
	}
}

// Each Bid is asked with the Plan as those ahead of it left it, and with the budget of the clock.
func TestClockRoundAsksInOrder(t *testing.T) {
	tight, unsure := tightClock(100), tightClock(0)
	swapped := crowdOf([]int64{2}, []int64{2, 3}, []int64{3, 4})
	chain := impl.Clock{Table: swapped, Top: 4, Price: 10, Step: 4, Budget: 100, Bids: bidsOf(1, 1, 10, 2, 1, 20, 3, 1, 30)}
	shut := impl.Clock{Table: swapped, Top: 3, Price: 10, Step: 4, Budget: 100, Bids: bidsOf(1, 1, 10, 2, 1, 20, 3, 1, 30)}
	for _, c := range []struct {
		what  string
		clock impl.Clock
		stays []int64
		want  impl.ClockOut
	}{
		// 2 goes out on 2, where 1 stood, which is moved to 3: nothing is left for 3.
		{"2 goes out, 3 is frozen though it stays", tight, []int64{3}, behind(tight, 1, 6, bidsOf(1, 3, 0, 2, 3, 0, 3, 2, 30), placesOf(1, 3, 2, 2), []int64{3}, []int64{2})},
		{"2 goes out, 3 is frozen though it goes", tight, nil, behind(tight, 1, 6, bidsOf(1, 3, 0, 2, 3, 0, 3, 2, 30), placesOf(1, 3, 2, 2), []int64{3}, []int64{2})},
		// While 2 stays, the Plan is as it was, and 3 could have 3.
		{"2 stays, 3 goes out", tight, []int64{2}, behind(tight, 1, 6, bidsOf(1, 3, 0, 2, 1, 12, 3, 3, 0), placesOf(1, 2, 3, 3), nil, []int64{3})},
		{"both stay", tight, []int64{2, 3}, behind(tight, 1, 6, bidsOf(1, 3, 0, 2, 1, 12, 3, 1, 18), placesOf(1, 2), nil, nil)},
		// Without a step nobody is moved: 2 is frozen, as nothing is shown of it; 3 needs no step.
		{"2 is Unknown", unsure, nil, behind(unsure, 1, 6, bidsOf(1, 3, 0, 2, 2, 20, 3, 3, 0), placesOf(1, 2, 3, 3), []int64{2}, []int64{3})},
		{"2 is Unknown though it stays", unsure, []int64{2, 3}, behind(unsure, 1, 6, bidsOf(1, 3, 0, 2, 2, 20, 3, 1, 18), placesOf(1, 2), []int64{2}, nil)},
		{"all go out in turn", chain, nil, behind(chain, 1, 6, bidsOf(1, 3, 0, 2, 3, 0, 3, 3, 0), placesOf(1, 2, 2, 3, 3, 4), nil, []int64{1, 2, 3})},
		{"the last is shut out by those ahead", shut, nil, behind(shut, 1, 6, bidsOf(1, 3, 0, 2, 3, 0, 3, 2, 30), placesOf(1, 2, 2, 3), []int64{3}, []int64{1, 2})},
		{"the second has the first one's channel", shut, []int64{1}, behind(shut, 1, 6, bidsOf(1, 1, 6, 2, 3, 0, 3, 3, 0), placesOf(2, 2, 3, 3), nil, []int64{2, 3})},
	} {
		wantClock(t, c.what, impl.ClockRound(c.clock, c.stays), c.want)
		wantClock(t, c.what+", by hand", roundByHand(c.clock, c.stays), c.want)
	}
	// Behind the last case 1 may no more come: 2 could have 3 then, but 3 could not have 2.
	next := impl.ClockRound(impl.ClockRound(shut, []int64{1}).Clock, []int64{1})
	wantNumbers(t, "1 is frozen in the round behind", next.Froze, []int64{1})
	if next.Clock.Bids[0] != (impl.Bid{Id: 1, State: impl.BidFrozen, Price: 6}) {
		t.Errorf("1 is frozen as %v", next.Clock.Bids[0])
	}
}

// The verdict behind as many steps as the budget has, and behind one more.
func TestClockRoundWithinItsBudget(t *testing.T) {
	t.Parallel()
	table := longYes(0)
	must := []int64{1, 2, 3, 4, 5, 7}
	plan := impl.AskAll(table, 51, must, impl.MaxSolve).Plan
	steps := impl.AskSteps(table, 51, channels(1, 7))
	if steps != 298 || len(impl.PlanAdd(table, 51, plan, 6)) > 0 {
		t.Fatalf("it takes %d steps", steps)
	}
	for _, budget := range []int64{0, 1, steps - 1, steps, steps + 1, impl.MaxSolve} {
		c := impl.Clock{Table: table, Top: 51, Price: 10, Step: 1, Budget: budget, Bids: bidsOf(1, 3, 0, 2, 3, 0, 3, 3, 0, 4, 3, 0, 5, 3, 0, 6, 1, 60, 7, 3, 0), Plan: plan}
		for _, stays := range [][]int64{nil, {6}} {
			what := fmt.Sprint("within ", budget, ", stays ", stays)
			got := impl.ClockRound(c, stays)
			want := impl.Bid{Id: 6, State: impl.BidFrozen, Price: 60}
			if budget >= steps && len(stays) > 0 {
				want = impl.Bid{Id: 6, State: impl.BidActive, Price: 54}
			} else if budget >= steps {
				want = impl.Bid{Id: 6, State: impl.BidOut, Price: 0}
			}
			if got.Code != impl.OK || got.Clock.Bids[5] != want {
				t.Errorf("%s: got %+v", what, got)
			}
			wantClock(t, what, got, roundByHand(c, stays))
		}
	}
}

func TestClockRunAtItsEdges(t *testing.T) {
	four, tight := fourClock(), tightClock(100)
	done := rightClocks()["all frozen"]
	all, none := []int64{8, 20, 21}, []int64(nil)
	ended := behind(four, 3, 0, bidsOf(3, 3, 0, 8, 2, 0, 20, 2, 0, 21, 2, 0), placesOf(3, 4), all, nil)
	for _, c := range []struct {
		what  string
		clock impl.Clock
		list  [][]int64
		want  impl.ClockOut
	}{
		{"no list", four, nil, impl.ClockOut{Clock: four}},
		{"no list, an empty one", four, [][]int64{}, impl.ClockOut{Clock: four}},
		{"one round", four, [][]int64{all}, behind(four, 1, 6, bidsOf(3, 3, 0, 8, 1, 12, 20, 1, 18, 21, 1, 24), placesOf(3, 4), nil, nil)},
		{"two rounds", four, [][]int64{all, all}, behind(four, 2, 2, bidsOf(3, 3, 0, 8, 1, 4, 20, 1, 6, 21, 1, 8), placesOf(3, 4), nil, nil)},
		{"as many as there are", four, [][]int64{all, all, all}, ended},
		{"a list that is not used up", four, [][]int64{all, all, all, none}, ended},
		{"MaxList lists", four, slices.Repeat([][]int64{all}, impl.MaxList), ended},
		{"all go out in the first", four, [][]int64{nil, all, all}, behind(four, 1, 6, bidsOf(3, 3, 0, 8, 3, 0, 20, 3, 0, 21, 3, 0), placesOf(3, 4, 8, 3, 20, 6, 21, 6), nil, all)},
		{"the last goes out first", four, [][]int64{{8, 20}, {20}, {20}}, behind(four, 3, 0, bidsOf(3, 3, 0, 8, 3, 0, 20, 2, 0, 21, 3, 0), placesOf(3, 4, 8, 3, 21, 6), []int64{20}, []int64{8, 21})},
		{"all go out, the last one first", four, [][]int64{{8, 20}, {8}, {}}, behind(four, 3, 0, bidsOf(3, 3, 0, 8, 3, 0, 20, 3, 0, 21, 3, 0), placesOf(3, 4, 8, 3, 20, 6, 21, 6), nil, all)},
		{"one frozen at once, one at the end", withClock(func(c *impl.Clock) { c.Top = 50; c.Table.Stations[3].Domain = []int64{51} }), [][]int64{all, all, all},
			behind(withClock(func(c *impl.Clock) { c.Top = 50; c.Table.Stations[3].Domain = []int64{51} }), 3, 0, bidsOf(3, 3, 0, 8, 2, 0, 20, 2, 0, 21, 2, 40), placesOf(3, 4), all, nil)},
		{"2 goes out behind a round", tight, [][]int64{{2, 3}, {3}, {3}}, behind(tight, 2, 2, bidsOf(1, 3, 0, 2, 3, 0, 3, 2, 18), placesOf(1, 3, 2, 2), []int64{3}, []int64{2})},
		{"3 goes out, and 2 is frozen behind it", tight, [][]int64{{2}, {2}, {2}}, behind(tight, 2, 2, bidsOf(1, 3, 0, 2, 2, 12, 3, 3, 0), placesOf(1, 2, 3, 3), []int64{2}, []int64{3})},
		{"no Bid is active", done, [][]int64{all}, impl.ClockOut{Clock: done}},
		{"no Bid is active, no list", done, nil, impl.ClockOut{Clock: done}},
		{"no Bid is active, a wrong list", done, [][]int64{{4}}, refusedClock(impl.ErrForm)},
		{"a wrong list", four, [][]int64{all, {20, 8}}, refusedClock(impl.ErrForm)},
		{"a wrong first list", four, [][]int64{{0}, all}, refusedClock(impl.ErrForm)},
		{"a wrong list that no round comes to", four, [][]int64{all, all, all, all, {3, 4}}, refusedClock(impl.ErrForm)},
		{"a wrong list behind the last round of all", four, [][]int64{nil, {22}}, refusedClock(impl.ErrForm)},
		{"a list of more than MaxList Ids", four, [][]int64{all, channels(1, impl.MaxList+1)}, refusedClock(impl.ErrForm)},
		{"more than MaxList lists", four, make([][]int64, impl.MaxList+1), refusedClock(impl.ErrSize)},
		{"more than MaxList lists, one wrong", four, slices.Repeat([][]int64{{4}}, impl.MaxList+1), refusedClock(impl.ErrSize)},
		{"more than MaxList lists, no Bid active", done, make([][]int64, impl.MaxList+1), refusedClock(impl.ErrSize)},
	} {
		wantClock(t, c.what, impl.ClockRun(c.clock, c.list), c.want)
		wantClock(t, c.what+", by hand", runByHand(c.clock, c.list), c.want)
	}
}

// anyClock: a right clock, with Bids of all States, and a Plan of who is out.
func anyClock(random *rand.Rand, i int) impl.Clock {
	table, top, _ := askCase(random, i)
	top = min(max(top, impl.LowChannel), impl.HighChannel)
	c := impl.Clock{Table: table, Top: top, Price: random.Int63n(30), Step: 1 + random.Int63n(12), Budget: impl.MaxSolve}
	if random.Intn(4) == 0 {
		c.Budget = random.Int63n(8)
	}
	c.Plan, _ = planCase(random, table, top, idsByHand(table))
	// Some of the Plan are taken off the air again, so that there is room left.
	c.Plan = slices.DeleteFunc(c.Plan, func(impl.Place) bool { return random.Intn(3) == 0 })
	for _, s := range table.Stations {
		bid := impl.Bid{Id: s.Id, State: impl.BidActive, Price: s.Score * (c.Price + random.Int63n(5))}
		if random.Intn(6) == 0 {
			bid.State = []int64{impl.BidFrozen, impl.BidWon}[random.Intn(2)]
		}
		if slices.ContainsFunc(c.Plan, func(p impl.Place) bool { return p.Id == s.Id }) {
			bid.State = impl.BidOut
		}
		c.Bids = append(c.Bids, bid)
	}
	return c
}

// mostOf: lists in which most stay.
func mostOf(random *rand.Rand, c impl.Clock, rounds int) [][]int64 {
	list := [][]int64(nil)
	for range rounds {
		stays := slices.DeleteFunc(idsByHand(c.Table), func(int64) bool { return random.Intn(8) == 0 })
		list = append(list, stays)
	}
	return list
}

func TestClockByHand(t *testing.T) {
	t.Parallel()
	random := rand.New(rand.NewSource(120))
	counts := map[string]int{}
	for i := range 220 {
		c := anyClock(random, i)
		what := fmt.Sprintf("%+v", c)
		wantTold(t, what, c)
		stays := someOf(random, idsByHand(c.Table))
		want := roundByHand(c, stays)
		wantClock(t, fmt.Sprint(what, " stays ", stays), impl.ClockRound(c, stays), want)
		wantTold(t, what, want.Clock)
		list := mostOf(random, c, random.Intn(8))
		run := runByHand(c, list)
		wantClock(t, fmt.Sprint(what, " stays ", list), impl.ClockRun(c, list), run)
		counts[fmt.Sprint("round ", want.Code)]++
		counts["froze"] += len(want.Froze)
		counts["exits"] += len(want.Exits)
		counts["active"] += len(activeByHand(want.Clock))
		counts["rounds"] += int(run.Rounds)
		counts["froze in a run"] += len(run.Froze)
		counts["exits in a run"] += len(run.Exits)
	}
	if counts["round 0"] < 120 || counts[fmt.Sprint("round ", impl.ErrState)] < 10 || counts["froze"] < 120 || counts["exits"] < 80 || counts["active"] < 80 ||
		counts["rounds"] < 200 || counts["froze in a run"] < 120 || counts["exits in a run"] < 40 {
		t.Errorf("the clocks are all of one kind: %v", counts)
	}
}

// A clock that is changed in one thing is right, or not, as by hand, and tells what it tells then.
func TestClockThatIsChanged(t *testing.T) {
	t.Parallel()
	random := rand.New(rand.NewSource(121))
	counts := map[bool]int{}
	for i := range 1500 {
		c := keptClock(anyClock(random, i%300))
		at := random.Intn(len(c.Bids))
		numbers := []int64{-1, 0, 1, 2, 3, 4, 5, 51, 52, 300, 301, 1000000, 1000001, maxBid, maxBid + 1}
		n := numbers[random.Intn(len(numbers))]
		switch i % 10 {
		case 0:
			c.Top = n
		case 1:
			c.Price = n
		case 2:
			c.Step = n
		case 3:
			c.Budget = n
		case 4, 5:
			c.Bids[at].State = n
		case 6:
			c.Bids[at].Price = n
		case 7:
			c.Bids[at].Id += n - 2
		case 8:
			if len(c.Plan) > 0 {
				c.Plan[random.Intn(len(c.Plan))].Channel += n % 4
			}
		case 9:
			if len(c.Plan) > 0 && n%2 == 0 {
				c.Plan = c.Plan[1:]
			}
		}
		counts[clockRightByHand(c)]++
		wantTold(t, fmt.Sprintf("%+v", c), c)
	}
	if counts[true] < 300 || counts[false] < 300 {
		t.Errorf("the clocks are all of one kind: %v", counts)
	}
}

// Promise 18.
func TestClockThatOpens(t *testing.T) {
	t.Parallel()
	random := rand.New(rand.NewSource(18))
	codes := map[int64]int{}
	for i := range 600 {
		table, top, must := askCase(random, i)
		price, step, budget := random.Int63n(impl.MaxPrice+1), 1+random.Int63n(impl.MaxPrice), int64(impl.MaxSolve)
		if random.Intn(3) == 0 {
			budget = random.Int63n(12)
		}
		what := fmt.Sprint(table, " up to ", top, " at ", price, " by ", step, " within ", budget, " must ", must)
		got := impl.ClockOpen(table, top, price, step, budget, must)
		codes[got.Code]++
		wantClock(t, what, got, clockOpenByHand(table, top, price, step, budget, must))
		if got.Code == impl.ErrInfeasible && budget == impl.MaxSolve && couldHave(table, top, must, nil) {
			t.Errorf("%s: is told not to have a plan", what)
		}
		if got.Code != impl.OK {
			continue
		}
		if !impl.ClockRight(got.Clock) {
			t.Errorf("%s: what is opened is not right", what)
		}
		wantPlanFault(t, what, table, top, got.Clock.Plan, 0)
		wantNumbers(t, what, impl.PlanIds(got.Clock.Plan), must)
		for at, s := range table.Stations {
			want := impl.Bid{Id: s.Id, State: impl.BidActive, Price: s.Score * price}
			if slices.Contains(must, s.Id) {
				want = impl.Bid{Id: s.Id, State: impl.BidOut, Price: 0}
			}
			if got.Clock.Bids[at] != want {
				t.Errorf("%s: the Bid is %v, want %v", what, got.Clock.Bids[at], want)
			}
		}
	}
	if codes[impl.OK] < 150 || codes[impl.ErrInfeasible] < 100 || codes[impl.ErrForm] < 20 {
		t.Errorf("the codes are all of one kind: %v", codes)
	}
}

// openClock: a clock as it is opened, within a budget that is mostly great, with few that must stay.
func openClock(random *rand.Rand, i int) impl.Clock {
	for {
		table, top, must := askCase(random, i)
		must = slices.DeleteFunc(slices.Clone(must), func(int64) bool { return random.Intn(2) == 0 })
		price := 1 + random.Int63n(60)
		budget := int64(impl.MaxSolve)
		if random.Intn(4) == 0 {
			budget = 1 + random.Int63n(6)
		}
		if out := impl.ClockOpen(table, max(top, impl.LowChannel), price, 1+random.Int63n(price), budget, must); out.Code == impl.OK {
			return out.Clock
		}
	}
}

// Promises 19 and 20, round by round from the opening to the end.
func TestClockRoundKeepsWhatItPromises(t *testing.T) {
	t.Parallel()
	random := rand.New(rand.NewSource(1920))
	counts := map[string]int{}
	for i := range 400 {
		c := openClock(random, i)
		for len(impl.ClockActive(c)) > 0 {
			stays := mostOf(random, c, 1)[0]
			what := fmt.Sprintf("%+v stays %v", c, stays)
			got := impl.ClockRound(c, stays)
			if got.Code != impl.OK || got.Rounds != 1 || !impl.ClockRight(got.Clock) {
				t.Fatalf("%s: got %+v", what, got)
			}
			wantBidsOfRound(t, what, c, stays, got, counts)
			wantOnTheAir(t, what, c, got.Clock)
			c = got.Clock
		}
	}
	if counts["stayed"] < 500 || counts["went out"] < 300 || counts["shut out"] < 100 || counts["at the end"] < 50 {
		t.Errorf("the rounds are all of one kind: %v", counts)
	}
}

// wantBidsOfRound: promise 19, and that whoever is frozen ahead of the end could have no channel, as far as that was shown.
func wantBidsOfRound(t *testing.T, what string, c impl.Clock, stays []int64, got impl.ClockOut, counts map[string]int) {
	t.Helper()
	plan := c.Plan
	for at, b := range c.Bids {
		now, offer := got.Clock.Bids[at], impl.ClockOffer(c, b.Id)
		if b.State != impl.BidActive {
			if now != b {
				t.Errorf("%.900s: %v is %v then", what, b, now)
			}
			continue
		}
		asked := impl.AskOne(c.Table, c.Top, plan, b.Id, c.Budget)
		want := impl.Bid{Id: b.Id, State: impl.BidOut}
		switch {
		case asked.Verdict != impl.Yes:
			counts["shut out"]++
			want = impl.Bid{Id: b.Id, State: impl.BidFrozen, Price: b.Price}
		case slices.Contains(stays, b.Id) && got.Clock.Price > 0:
			counts["stayed"]++
			want = impl.Bid{Id: b.Id, State: impl.BidActive, Price: offer}
		case slices.Contains(stays, b.Id):
			counts["at the end"]++
			want = impl.Bid{Id: b.Id, State: impl.BidFrozen, Price: offer}
		default:
			counts["went out"]++
			plan = asked.Plan
			if !slices.Contains(impl.PlanIds(got.Clock.Plan), b.Id) {
				t.Errorf("%.900s: %d goes out, and has no channel", what, b.Id)
			}
		}
		if now != want {
			t.Errorf("%.900s: %v is %v then, want %v", what, b, now, want)
		}
		if slices.Contains(got.Froze, b.Id) != (want.State == impl.BidFrozen) || slices.Contains(got.Exits, b.Id) != (want.State == impl.BidOut) {
			t.Errorf("%.900s: %d is %d, frozen are %v, out go %v", what, b.Id, want.State, got.Froze, got.Exits)
		}
	}
}

// wantOnTheAir: promise 20.
func wantOnTheAir(t *testing.T, what string, before impl.Clock, now impl.Clock) {
	t.Helper()
	wantPlanFault(t, what, now.Table, now.Top, now.Plan, 0)
	for i, x := range now.Plan {
		for _, y := range now.Plan[:i] {
			if !mayHaveByHand(now.Table, x, y) {
				t.Errorf("%.900s: %v and %v are too near", what, y, x)
			}
		}
	}
	for _, place := range before.Plan {
		if !slices.Contains(impl.PlanIds(now.Plan), place.Id) {
			t.Errorf("%.900s: %d is no more on the air", what, place.Id)
		}
	}
	for _, b := range now.Bids {
		if (b.State == impl.BidOut) != slices.Contains(impl.PlanIds(now.Plan), b.Id) {
			t.Errorf("%.900s: %v beside %v", what, b, now.Plan)
		}
	}
}

// Promise 21.
func TestClockEnds(t *testing.T) {
	t.Parallel()
	random := rand.New(rand.NewSource(21))
	least, most := 0, 0
	for i := range 400 {
		c := openClock(random, i)
		if i%2 == 0 {
			c = anyClock(random, i)
		}
		bound := c.Price/c.Step + 1
		list := slices.Repeat([][]int64{idsByHand(c.Table)}, int(bound)+2)
		if i%3 == 0 {
			list = mostOf(random, c, int(bound)+2)
		}
		what := fmt.Sprintf("%+v stays %v", c, list)
		got := impl.ClockRun(c, list)
		wantClock(t, what, got, runBy(c, list, impl.ClockRound))
		if got.Rounds > bound || len(impl.ClockActive(got.Clock)) > 0 || got.Code != impl.OK {
			t.Errorf("%.900s: does not end in %d rounds: %+v", what, bound, got)
		}
		if got.Rounds == bound {
			most++
		} else {
			least++
		}
		// Wherever the run is cut in two, both parts together are the run.
		cut := random.Intn(len(list) + 1)
		first := impl.ClockRun(c, list[:cut])
		second := impl.ClockRun(first.Clock, list[cut:])
		if !clocksAlike(second.Clock, got.Clock) || first.Rounds+second.Rounds != got.Rounds {
			t.Errorf("%.900s: cut at %d, it leads to %+v", what, cut, second)
		}
	}
	if least < 50 || most < 50 {
		t.Errorf("%d end at once, %d late", least, most)
	}
}

// Promise 21 at the limits: as many rounds as there may be lists.
func TestClockEndsAtTheLimits(t *testing.T) {
	table := oneStation(7, 1000, 2)
	for _, c := range []struct {
		price  int64
		step   int64
		rounds int64
		left   int64
	}{
		{0, 1, 1, 0}, {0, 1000000, 1, 0}, {1, 1, 1, 0}, {1, 2, 1, 0}, {2, 1, 2, 0}, {3, 2, 2, 0}, {4, 2, 2, 0},
		{399, 1, 399, 0}, {400, 1, 400, 0}, {401, 1, 400, 1}, {1000000, 1000000, 1, 0}, {1000000, 999999, 2, 0}, {999999, 1000000, 1, 0},
		{1000000, 500000, 2, 0}, {1000000, 2500, 400, 0}, {1000000, 2499, 400, 400}, {1000000, 2501, 400, 0}, {1000000, 1, 400, 999600},
	} {
		what := fmt.Sprint("from ", c.price, " by ", c.step)
		got := impl.ClockRun(impl.ClockOpen(table, 2, c.price, c.step, 1, nil).Clock, slices.Repeat([][]int64{{7}}, impl.MaxList))
		want := impl.Bid{Id: 7, State: impl.BidFrozen, Price: 0}
		froze := []int64{7}
		if c.left > 0 {
			want, froze = impl.Bid{Id: 7, State: impl.BidActive, Price: 1000 * c.left}, nil
		}
		if got.Rounds != c.rounds || got.Clock.Price != c.left || got.Clock.Bids[0] != want || got.Code != impl.OK {
			t.Errorf("%s: got %+v", what, got)
		}
		wantNumbers(t, what, got.Froze, froze)
		wantNumbers(t, what, got.Exits, nil)
	}
}

// A run of the most Stations there may be, through the most rounds: it ends in short time, and as its rounds one by one.
func TestClockOfTheMostThereIs(t *testing.T) {
	t.Parallel()
	table := longestTable()
	c := impl.ClockOpen(table, 51, impl.MaxPrice, 2500, impl.MaxSolve, []int64{988}).Clock
	list := slices.Repeat([][]int64{idsByHand(table)}, impl.MaxList)
	for i := range 9 {
		list[40*i+7] = idsByHand(table)[:11-i]
	}
	got := impl.ClockRun(c, list)
	wantClock(t, "the most there is", got, runBy(c, list, impl.ClockRound))
	if got.Rounds < 100 || len(got.Exits) == 0 || len(got.Froze) == 0 || len(impl.ClockActive(got.Clock)) > 0 {
		t.Errorf("the most there is: got %+v", got)
	}
	wantTold(t, "the most there is", got.Clock)
}

func TestClockKeepsNothing(t *testing.T) {
	random := rand.New(rand.NewSource(122))
	four, tight := fourClock(), tightClock(100)
	opened, round := impl.ClockOpen(four.Table, 9, 10, 4, 100, []int64{3}), impl.ClockRound(tight, []int64{3})
	run := impl.ClockRun(four, [][]int64{{8, 20}, {20}, {20}})
	for i := range 200 {
		c := anyClock(random, i)
		impl.ClockOpen(c.Table, c.Top, c.Price, c.Step, c.Budget, someOf(random, idsByHand(c.Table)))
		impl.ClockRun(c, mostOf(random, c, 3))
		impl.ClockRound(c, nil)
		impl.ClockRound(impl.Clock{}, []int64{3})
		wantClock(t, "again", impl.ClockOpen(four.Table, 9, 10, 4, 100, []int64{3}), opened)
		wantClock(t, "again", impl.ClockRound(tight, []int64{3}), round)
		wantClock(t, "again", impl.ClockRun(four, [][]int64{{8, 20}, {20}, {20}}), run)
		wantTold(t, "again", four)
	}
}

// heldList: one of the lists of an answer: how to spoil it, and if it still is as it was.
type heldList struct {
	name  string
	spoil func()
	same  func() bool
}

func held[T comparable](name string, list []T, bad T) heldList {
	before := slices.Clone(list)
	return heldList{
		name: name,
		spoil: func() {
			full := list[:cap(list)]
			for i := range full {
				full[i] = bad
			}
		},
		same: func() bool { return slices.Equal(list, before) },
	}
}

// heldInTable: its Stations are held by their Ids and Scores, as their Domains are lists of their own.
func heldInTable(table impl.Table) []heldList {
	before := tableKept(table)
	all := []heldList{held("Pairs", table.Pairs, impl.Pair{A: -77, B: -77, Kind: -77}), {
		name:  "Stations",
		spoil: func() { clear(table.Stations[:cap(table.Stations)]) },
		same: func() bool {
			return slices.EqualFunc(table.Stations, before.Stations, func(x impl.Station, y impl.Station) bool { return x.Id == y.Id && x.Score == y.Score })
		},
	}}
	for i, s := range table.Stations {
		all = append(all, held(fmt.Sprint("Domain ", i), s.Domain, -77))
	}
	return all
}

func heldInClock(c impl.Clock) []heldList {
	return append(heldInTable(c.Table), held("Bids", c.Bids, impl.Bid{Id: -77, State: -77, Price: -77}), held("Plan", c.Plan, impl.Place{Id: -77, Channel: -77}))
}

func heldInClockOut(out impl.ClockOut) []heldList {
	return append(heldInClock(out.Clock), held("Froze", out.Froze, -77), held("Exits", out.Exits, -77))
}

// wantHeldApart spoils the lists one by one: no other one changes with it.
func wantHeldApart(t *testing.T, what string, lists []heldList) {
	t.Helper()
	for i, list := range lists {
		list.spoil()
		for _, other := range lists[i+1:] {
			if !other.same() {
				t.Errorf("%.900s: %s changes with %s", what, other.name, list.name)
				return
			}
		}
	}
}

// roomyClock: lists with room behind them, which share no memory with c.
func roomyClock(c impl.Clock) impl.Clock {
	c.Table, c.Plan = spacious(c.Table), roomyPlan(c.Plan)
	c.Bids = append(make([]impl.Bid, 0, len(c.Bids)+4), c.Bids...)
	return c
}

// beyondClock: a copy of c and of the room behind its lists.
func beyondClock(c impl.Clock) impl.Clock {
	c.Table, c.Plan, c.Bids = beyond(c.Table), slices.Clone(c.Plan[:cap(c.Plan)]), slices.Clone(c.Bids[:cap(c.Bids)])
	return c
}

func TestClockChangesAndSharesNothing(t *testing.T) {
	t.Parallel()
	random := rand.New(rand.NewSource(123))
	froze, exits := 0, 0
	for i := range 400 {
		c := roomyClock(anyClock(random, i))
		stays := roomyIds(someOf(random, idsByHand(c.Table)))
		list := [][]int64{roomyIds(stays), roomyIds(idsByHand(c.Table)), roomyIds(nil)}
		clockBefore, staysBefore := beyondClock(c), slices.Clone(stays[:cap(stays)])
		listBefore := [][]int64{slices.Clone(list[0][:cap(list[0])]), slices.Clone(list[1][:cap(list[1])]), slices.Clone(list[2][:cap(list[2])])}
		what := fmt.Sprintf("%+v stays %v", c, stays)
		for _, call := range []func() impl.ClockOut{
			func() impl.ClockOut { return impl.ClockRound(c, stays) },
			func() impl.ClockOut { return impl.ClockRun(c, list) },
			func() impl.ClockOut { return impl.ClockRun(c, nil) },
			func() impl.ClockOut { return impl.ClockOpen(c.Table, c.Top, c.Price, c.Step, c.Budget, stays) },
		} {
			first, second, third := call(), call(), call()
			want := keptClockOut(third)
			froze += len(want.Froze)
			exits += len(want.Exits)
			lists, turned := heldInClockOut(first), heldInClockOut(second)
			slices.Reverse(turned)
			wantHeldApart(t, what, lists)
			wantHeldApart(t, what, turned)
			wantClock(t, what, third, want)
			wantClock(t, what+", again", call(), want)
		}
		spoilNumbers(impl.ClockActive(c))
		impl.ClockTotal(c)
		impl.ClockOffer(c, c.Bids[0].Id)
		if !clocksAlike(beyondClock(c), clockBefore) || !slices.Equal(stays[:cap(stays)], staysBefore) {
			t.Errorf("%.900s: what was handed in is changed, or an answer shares its memory", what)
		}
		for at, ids := range list {
			if !slices.Equal(ids[:cap(ids)], listBefore[at]) {
				t.Errorf("%.900s: list %d is changed", what, at)
			}
		}
	}
	if froze < 200 || exits < 200 {
		t.Errorf("%d froze, %d went out", froze, exits)
	}
}

// What was handed in may share memory within itself; the answer does not.
func TestClockOfListsThatShare(t *testing.T) {
	domain := []int64{2, 3, 4, 5}
	table := impl.Table{Stations: []impl.Station{{Id: 1, Score: 1, Domain: domain}, {Id: 2, Score: 2, Domain: domain}, {Id: 3, Score: 3, Domain: domain[1:3]}}}
	open := func() impl.ClockOut { return impl.ClockOpen(table, 51, 10, 4, 100, []int64{1}) }
	first, second := heldInClockOut(open()), heldInClockOut(open())
	slices.Reverse(second)
	wantHeldApart(t, "opened", first)
	wantHeldApart(t, "opened", second)
	c := open().Clock
	c.Table = table
	for _, call := range []func() impl.ClockOut{
		func() impl.ClockOut { return impl.ClockRound(c, []int64{2}) },
		func() impl.ClockOut { return impl.ClockRun(c, [][]int64{{2}, {2}}) },
		func() impl.ClockOut { return impl.ClockRun(c, nil) },
	} {
		first, second := heldInClockOut(call()), heldInClockOut(call())
		slices.Reverse(second)
		wantHeldApart(t, "a round", first)
		wantHeldApart(t, "a round", second)
	}
	wantNumbers(t, "what was handed in", domain, []int64{2, 3, 4, 5})
}

// What was handed in may change behind an answer, which stays as it is.
func TestClockStaysAsItIs(t *testing.T) {
	random := rand.New(rand.NewSource(124))
	for i := range 200 {
		c := keptClock(anyClock(random, i))
		stays := someOf(random, idsByHand(c.Table))
		list := [][]int64{slices.Clone(stays), idsByHand(c.Table)}
		outs := []impl.ClockOut{
			impl.ClockRound(c, stays), impl.ClockRun(c, list), impl.ClockRun(c, nil), impl.ClockOpen(c.Table, c.Top, c.Price, c.Step, c.Budget, stays),
		}
		before := []impl.ClockOut(nil)
		for _, out := range outs {
			before = append(before, keptClockOut(out))
		}
		spoilNumbers(stays)
		spoilNumbers(list[0])
		spoilNumbers(list[1])
		for _, given := range heldInClock(c) {
			given.spoil()
		}
		for at, out := range outs {
			wantClock(t, fmt.Sprint("answer ", at), out, before[at])
		}
	}
}
