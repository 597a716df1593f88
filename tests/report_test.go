package tests

import (
	"fmt"
	"math"
	"math/big"
	"math/rand"
	"regexp"
	"slices"
	"strings"
	"testing"

	"loop.example/g00144/impl"
)

// reportForm: lines of words with one blank between, each with a line feed behind it, and nothing else.
var reportForm = regexp.MustCompile(`^([a-z0-9.-]+( [a-z0-9.-]+)*\n)*$`)

// hundredths: money as a text.
func hundredths(v int64) string {
	return big.NewRat(v, 100).FloatString(2)
}

// nameByHand: what StateName is to tell.
func nameByHand(state int64) string {
	return map[int64]string{1: "active", 2: "frozen", 3: "out", 4: "won"}[state]
}

// bidsTextByHand: what BidsText is to tell.
func bidsTextByHand(c impl.Clock) string {
	text := ""
	for _, b := range c.Bids {
		if clockRightByHand(c) {
			text += fmt.Sprintf("%d %s %s\n", b.Id, nameByHand(b.State), hundredths(b.Price))
		}
	}
	return text
}

// planTextByHand: what PlanText is to tell.
func planTextByHand(plan []impl.Place) string {
	text := ""
	for _, p := range plan {
		if len(plan) <= 400 {
			text += fmt.Sprintf("%d %d\n", p.Id, p.Channel)
		}
	}
	return text
}

// paysTextByHand: what PaysText is to tell.
func paysTextByHand(s impl.Stage) string {
	if !stageRightByHand(s) || !s.Closed {
		return ""
	}
	text, total := "", int64(0)
	for _, pay := range paysByHand(s) {
		text += fmt.Sprintf("%d %s\n", pay.Id, hundredths(pay.Price))
		total += pay.Price
	}
	return text + "total " + hundredths(total) + "\n"
}

// stageTextByHand: what StageText is to tell.
func stageTextByHand(s impl.Stage) string {
	if !stageRightByHand(s) {
		return ""
	}
	return fmt.Sprintf("stage %d\ntop %d\n", s.At, s.Tops[s.At]) + bidsTextByHand(s.Clock) + planTextByHand(s.Clock.Plan) + paysTextByHand(s)
}

// askTextByHand: what AskText is to tell.
func askTextByHand(a impl.AskOut) string {
	word := map[int64]string{1: "yes", 2: "no", 3: "unknown"}[a.Verdict]
	if a.Code != 0 || word == "" {
		return ""
	}
	text := fmt.Sprintf("%s %d\n", word, a.Steps)
	if word == "yes" {
		text += planTextByHand(a.Plan)
	}
	if word == "no" && lemmasRightByHand(a.Lemmas) {
		text += unlessTooLong(linesByHand(a.Lemmas))
	}
	return text
}

// wantReport: a text that is told, and that it is made of lines.
func wantReport(t *testing.T, what string, got string, want string) {
	t.Helper()
	wantText(t, cutOff(what), got, want)
	if !reportForm.MatchString(got) {
		t.Errorf("%.900s: %.200q is not made of lines of words", what, got)
	}
}

// wantReports: all that is told of a stage, as by hand.
func wantReports(t *testing.T, what string, s impl.Stage) {
	t.Helper()
	wantReport(t, what+", its Bids", impl.BidsText(s.Clock), bidsTextByHand(s.Clock))
	wantReport(t, what+", its Plan", impl.PlanText(s.Clock.Plan), planTextByHand(s.Clock.Plan))
	wantReport(t, what+", its pays", impl.PaysText(s), paysTextByHand(s))
	wantReport(t, what, impl.StageText(s), stageTextByHand(s))
}

func wantAskText(t *testing.T, what string, a impl.AskOut, want string) {
	t.Helper()
	wantReport(t, what, impl.AskText(a), want)
	wantReport(t, what+", by hand", askTextByHand(a), want)
}

// wantLines: a text has a line for each list of words, and no other.
func wantLines(t *testing.T, what string, text string, lists [][]string) {
	t.Helper()
	if count := strings.Count(text, "\n"); count != len(lists) {
		t.Fatalf("%.900s: %q has %d lines, want %d", what, text, count, len(lists))
	}
	for at, line := range strings.SplitAfter(text, "\n")[:len(lists)] {
		if words := strings.Split(strings.TrimSuffix(line, "\n"), " "); !slices.Equal(words, lists[at]) {
			t.Errorf("%.900s: line %d has the words %q, want %q", what, at, words, lists[at])
		}
	}
}

// wantPromise29: line by line and word by word, what is told of a right stage.
func wantPromise29(t *testing.T, what string, s impl.Stage) {
	t.Helper()
	bids, places, pays := [][]string(nil), [][]string(nil), [][]string(nil)
	for _, b := range s.Clock.Bids {
		bids = append(bids, []string{fmt.Sprint(b.Id), impl.StateName(b.State), hundredths(b.Price)})
	}
	for _, p := range s.Clock.Plan {
		places = append(places, []string{fmt.Sprint(p.Id), fmt.Sprint(p.Channel)})
	}
	total := int64(0)
	for _, pay := range impl.StagePays(s) {
		pays = append(pays, []string{fmt.Sprint(pay.Id), hundredths(pay.Price)})
		total += pay.Price
	}
	if s.Closed {
		pays = append(pays, []string{"total", hundredths(total)})
	}
	wantLines(t, what+", its Bids", impl.BidsText(s.Clock), bids)
	wantLines(t, what+", its Plan", impl.PlanText(s.Clock.Plan), places)
	wantLines(t, what+", its pays", impl.PaysText(s), pays)
	head := [][]string{{"stage", fmt.Sprint(s.At)}, {"top", fmt.Sprint(s.Clock.Top)}}
	wantLines(t, what, impl.StageText(s), slices.Concat(head, bids, places, pays))
	wantText(t, cutOff(what), impl.StageText(s), fmt.Sprintf("stage %d\ntop %d\n", s.At, s.Clock.Top)+
		impl.BidsText(s.Clock)+impl.PlanText(s.Clock.Plan)+impl.PaysText(s))
	wantReports(t, what, s)
}

func TestStateName(t *testing.T) {
	for state, name := range map[int64]string{impl.BidActive: "active", impl.BidFrozen: "frozen", impl.BidOut: "out", impl.BidWon: "won"} {
		wantReport(t, fmt.Sprint("state ", state), impl.StateName(state)+"\n", name+"\n")
	}
	for _, state := range []int64{0, -1, -2, -3, -4, 5, 6, 10, 255, 256, 257, 260, 65537, 1<<32 + 1, 1<<32 + 4, -1<<32 + 2, math.MaxInt64, math.MinInt64, math.MinInt64 + 3} {
		wantText(t, fmt.Sprint("state ", state), impl.StateName(state), "")
	}
}

// One auction that closes at its second top, and one that fails there, told step by step.
func TestReportsOfWholeAuctions(t *testing.T) {
	table := impl.Table{
		Stations: []impl.Station{{Id: 1, Score: 10, Domain: []int64{2, 3}}, {Id: 2, Score: 5, Domain: []int64{2, 4}}, {Id: 30, Score: 70, Domain: []int64{9}}},
		Pairs:    []impl.Pair{{A: 1, B: 2, Kind: 1}},
	}
	opened := impl.StageOpen(table, []int64{2, 9}, 1000, 400, 100, []int64{1}, 5).Stage
	frozen := impl.StageRound(opened, []int64{2, 30}).Stage
	second := impl.StageClose(frozen, 75004).Stage
	stayed := impl.StageRound(second, []int64{30}).Stage
	lower := impl.StageRound(stayed, []int64{30}).Stage
	for _, c := range []struct {
		what  string
		stage impl.Stage
		want  string
	}{
		{"opened", opened, "stage 0\ntop 2\n1 out 0.00\n2 active 50.00\n30 active 700.00\n1 2\n"},
		{"behind a round", frozen, "stage 0\ntop 2\n1 out 0.00\n2 frozen 50.00\n30 frozen 700.00\n1 2\n"},
		{"closed at once", impl.StageClose(frozen, 75005).Stage, "stage 0\ntop 2\n1 out 0.00\n2 won 50.00\n30 won 700.00\n1 2\n2 50.00\n30 700.00\ntotal 750.00\n"},
		{"at its second top", second, "stage 1\ntop 9\n1 out 0.00\n2 active 50.00\n30 active 700.00\n1 2\n"},
		{"one went out", stayed, "stage 1\ntop 9\n1 out 0.00\n2 out 0.00\n30 active 140.00\n1 2\n2 4\n"},
		{"the price is 0", lower, "stage 1\ntop 9\n1 out 0.00\n2 out 0.00\n30 frozen 0.00\n1 2\n2 4\n"},
		{"closed", impl.StageClose(lower, 5).Stage, "stage 1\ntop 9\n1 out 0.00\n2 out 0.00\n30 won 0.00\n1 2\n2 4\n30 0.00\ntotal 0.00\n"},
		{"failed", impl.StageClose(lower, 4).Stage, "stage 1\ntop 9\n1 out 0.00\n2 out 0.00\n30 frozen 0.00\n1 2\n2 4\n"},
		{"all out", impl.StageRound(second, nil).Stage, "stage 1\ntop 9\n1 out 0.00\n2 out 0.00\n30 out 0.00\n1 2\n2 4\n30 9\n"},
		{"closed, and nobody is paid", impl.StageClose(impl.StageRound(second, nil).Stage, 5).Stage, "stage 1\ntop 9\n1 out 0.00\n2 out 0.00\n30 out 0.00\n1 2\n2 4\n30 9\ntotal 0.00\n"},
	} {
		wantReport(t, c.what, impl.StageText(c.stage), c.want)
		wantPromise29(t, c.what, c.stage)
	}
}

// ledToItsEnd: a stage as it is opened, and behind each round and each closing; the last one is Closed or Failed.
func ledToItsEnd(random *rand.Rand, i int) []impl.Stage {
	s := openStage(random, i)
	steps := []impl.Stage{s}
	for !s.Closed && !s.Failed {
		if len(activeByHand(s.Clock)) > 0 {
			s = impl.StageRound(s, mostOf(random, s.Clock, 1)[0]).Stage
		} else {
			s = impl.StageClose(s, impl.StageNeeds(s)*int64(random.Intn(5))/4).Stage
		}
		steps = append(steps, s)
	}
	return steps
}

// Promise 29, at each step of whole auctions.
func TestReportsHaveALineForEachThing(t *testing.T) {
	t.Parallel()
	random := rand.New(rand.NewSource(29))
	counts := map[string]int{}
	for i := range 150 {
		for _, s := range ledToItsEnd(random, i) {
			if !impl.StageRight(s) {
				t.Fatalf("%+v: is not right", s)
			}
			wantPromise29(t, fmt.Sprintf("%+v", s), s)
			counts["steps"]++
			for _, b := range s.Clock.Bids {
				counts[impl.StateName(b.State)]++
			}
			if s.Closed {
				counts["closed"]++
				counts[fmt.Sprint("paid ", min(len(impl.StagePays(s)), 2))]++
			}
			if s.Failed {
				counts["failed"]++
			}
			if s.At > 0 {
				counts["at a later top"]++
			}
		}
	}
	for what, least := range map[string]int{
		"steps": 800, "active": 1000, "frozen": 1000, "out": 1000, "won": 150,
		"closed": 50, "paid 0": 4, "paid 1": 8, "paid 2": 30, "failed": 40, "at a later top": 200,
	} {
		if counts[what] < least {
			t.Errorf("the auctions are all of one kind: %s of %v", what, counts)
			break
		}
	}
}

// Stages of any kind, right ones also with what no auction leads to.
func TestReportsByHand(t *testing.T) {
	random := rand.New(rand.NewSource(170))
	for i := range 200 {
		s := anyStage(random, i)
		wantPromise29(t, fmt.Sprintf("%+v", s), s)
		// A right clock may also have won Bids of which no stage is right.
		c := anyClock(random, i)
		wantReport(t, fmt.Sprintf("%+v", c), impl.BidsText(c), bidsTextByHand(c))
	}
	for what, s := range rightStages() {
		wantPromise29(t, what, s)
	}
}

// A stage that is changed in one thing is told as by hand, whether it is right then or not.
func TestReportsOfWhatIsChanged(t *testing.T) {
	random := rand.New(rand.NewSource(171))
	counts := map[string]int{}
	for i := range 800 {
		s := keptStage(anyStage(random, i%200))
		numbers := []int64{-1, 0, 1, 2, 3, 4, 5, 51, 52, maxBid, maxBid + 1, impl.MaxMoney, math.MaxInt64, math.MinInt64}
		n := numbers[random.Intn(len(numbers))]
		bid := &s.Clock.Bids[random.Intn(len(s.Clock.Bids))]
		switch i % 9 {
		case 0:
			s.At = n
		case 1:
			s.Fixed = n
		case 2:
			s.Clock.Top = n
		case 3:
			s.Closed = !s.Closed
		case 4:
			s.Failed = !s.Failed
		case 5:
			bid.State = n
		case 6:
			bid.Price = n
		case 7:
			bid.Id = n
		case 8:
			s.Clock.Plan = append(s.Clock.Plan, impl.Place{Id: n, Channel: n})
		}
		wantReports(t, fmt.Sprintf("%+v", s), s)
		counts[fmt.Sprint("clock ", clockRightByHand(s.Clock))]++
		counts[fmt.Sprint("stage ", stageRightByHand(s))]++
	}
	if counts["clock true"] < 200 || counts["clock false"] < 100 || counts["stage true"] < 100 || counts["stage false"] < 200 {
		t.Errorf("the stages are all of one kind: %v", counts)
	}
}

func TestBidsTextAtItsEdges(t *testing.T) {
	prices := func(prices ...int64) impl.Clock {
		return withClock(func(c *impl.Clock) {
			for at, price := range prices {
				c.Bids[at].Price = price
			}
		})
	}
	last := longestTable()
	most := impl.ClockOpen(last, 51, impl.MaxPrice, 1, impl.MaxSolve, nil).Clock
	mostText := ""
	for id := 988; id < 1000; id++ {
		mostText += fmt.Sprint(id, " active 10000000.00\n")
	}
	for _, c := range []struct {
		what  string
		clock impl.Clock
		want  string
	}{
		{"ordinary", fourClock(), "3 out 0.00\n8 active 0.20\n20 active 0.30\n21 active 0.40\n"},
		{"each state", withClock(func(c *impl.Clock) { c.Bids[1].State, c.Bids[2].State, c.Bids[3].State = 4, 2, 1 }), "3 out 0.00\n8 won 0.20\n20 frozen 0.30\n21 active 0.40\n"},
		{"Prices of 0", prices(0, 0, 0, 0), "3 out 0.00\n8 active 0.00\n20 active 0.00\n21 active 0.00\n"},
		{"a few hundredths", prices(0, 1, 9, 10), "3 out 0.00\n8 active 0.01\n20 active 0.09\n21 active 0.10\n"},
		{"around a whole", prices(0, 99, 100, 101), "3 out 0.00\n8 active 0.99\n20 active 1.00\n21 active 1.01\n"},
		{"the greatest Prices", prices(0, maxBid, maxBid-1, 123456789), "3 out 0.00\n8 active 10000000.00\n20 active 9999999.99\n21 active 1234567.89\n"},
		{"out at a Price", prices(77, 20, 30, 40), "3 out 0.77\n8 active 0.20\n20 active 0.30\n21 active 0.40\n"},
		{"nobody out", rightClocks()["nobody out"], "3 active 0.00\n8 active 0.20\n20 active 0.30\n21 active 0.40\n"},
		{"all out", rightClocks()["all out"], "3 out 0.00\n8 out 0.00\n20 out 0.00\n21 out 0.00\n"},
		{"one Station", impl.ClockOpen(oneStation(999, 1, 2), 2, 1, 1, 1, nil).Clock, "999 active 0.01\n"},
		{"the most there is", most, mostText},
		{"a Price above the greatest", prices(0, maxBid+1, 30, 40), ""},
		{"a Price of MaxMoney", prices(0, 20, impl.MaxMoney, 40), ""},
		{"a Price above MaxMoney", prices(0, 20, impl.MaxMoney+1, 40), ""},
		{"a Price below 0", prices(0, 20, 30, -1), ""},
		{"no Bids", wrongClocks()["no Bids"], ""},
		{"no Bids, an empty list", withClock(func(c *impl.Clock) { c.Bids, c.Plan = []impl.Bid{}, nil }), ""},
		{"nothing", impl.Clock{}, ""},
	} {
		wantReport(t, c.what, impl.BidsText(c.clock), c.want)
		wantReport(t, c.what+", by hand", bidsTextByHand(c.clock), c.want)
	}
	for what, c := range rightClocks() {
		wantReport(t, what, impl.BidsText(c), bidsTextByHand(c))
		if lines := strings.Count(impl.BidsText(c), "\n"); lines != 4 {
			t.Errorf("%s: %d lines of 4 Bids", what, lines)
		}
	}
}

func TestPlanTextAtItsEdges(t *testing.T) {
	many := func(count int, id int64, channel int64) []impl.Place {
		return slices.Repeat([]impl.Place{{Id: id, Channel: channel}}, count)
	}
	least, greatest := int64(math.MinInt64), int64(math.MaxInt64)
	for _, c := range []struct {
		what string
		plan []impl.Place
		want string
	}{
		{"no Place", nil, ""},
		{"an empty list", []impl.Place{}, ""},
		{"one", placesOf(3, 4), "3 4\n"},
		{"some", placesOf(3, 4, 8, 3, 21, 51), "3 4\n8 3\n21 51\n"},
		{"falling", placesOf(21, 51, 8, 3, 3, 4), "21 51\n8 3\n3 4\n"},
		{"one twice", placesOf(3, 4, 3, 4), "3 4\n3 4\n"},
		{"one on two channels", placesOf(3, 5, 3, 4), "3 5\n3 4\n"},
		{"of nought", placesOf(0, 0), "0 0\n"},
		{"below 0", placesOf(-3, -40, 3, -1, -1, 3), "-3 -40\n3 -1\n-1 3\n"},
		{"far beyond what is right", placesOf(1000, 52, 1000000, 100), "1000 52\n1000000 100\n"},
		{"the least and the greatest", placesOf(least, greatest, greatest, least), "-9223372036854775808 9223372036854775807\n9223372036854775807 -9223372036854775808\n"},
		{"MaxList Places", many(impl.MaxList, 7, 2), strings.Repeat("7 2\n", impl.MaxList)},
		{"MaxList of the longest", many(impl.MaxList, least, least), strings.Repeat("-9223372036854775808 -9223372036854775808\n", impl.MaxList)},
		{"one Place less", many(impl.MaxList-1, 7, 2), strings.Repeat("7 2\n", impl.MaxList-1)},
		{"one Place more", many(impl.MaxList+1, 7, 2), ""},
		{"many more", many(30000, 7, 2), ""},
	} {
		wantReport(t, c.what, impl.PlanText(c.plan), c.want)
		wantReport(t, c.what+", by hand", planTextByHand(c.plan), c.want)
	}
}

func TestPaysTextAtItsEdges(t *testing.T) {
	closed := func(change func(s *impl.Stage)) impl.Stage {
		s := closedStage()
		change(&s)
		return s
	}
	last := impl.StageOpen(longestTable(), []int64{51}, impl.MaxPrice, 1, impl.MaxSolve, nil, impl.MaxMoney).Stage
	last.Closed, last.Clock.Bids = true, inState(last, impl.BidWon)
	lastText := ""
	for id := 988; id < 1000; id++ {
		lastText += fmt.Sprint(id, " 10000000.00\n")
	}
	three := "8 0.20\n20 0.30\n21 0.40\ntotal 0.90\n"
	for _, c := range []struct {
		what  string
		stage impl.Stage
		want  string
	}{
		{"closed", closedStage(), three},
		{"what is fixed is not paid", closed(func(s *impl.Stage) { s.Fixed = impl.MaxMoney }), three},
		{"nothing fixed", closed(func(s *impl.Stage) { s.Fixed = 0 }), three},
		{"at its last top", closed(func(s *impl.Stage) { s.At, s.Clock.Top = 3, 51 }), three},
		{"out at a Price", closed(func(s *impl.Stage) { s.Clock.Bids[0].Price = 77 }), three},
		{"one is paid", closed(func(s *impl.Stage) {
			s.At, s.Clock.Top, s.Clock.Bids, s.Clock.Plan = 2, 6, bidsOf(3, 3, 0, 8, 3, 0, 20, 4, 123456, 21, 3, 0), placesOf(3, 4, 8, 3, 21, 6)
		}), "20 1234.56\ntotal 1234.56\n"},
		{"nobody is paid", rightStages()["all out, closed"], "total 0.00\n"},
		{"all are paid", rightStages()["nobody out, closed"], "3 0.00\n8 0.20\n20 0.30\n21 0.40\ntotal 0.90\n"},
		{"paid 0", closed(func(s *impl.Stage) { s.Clock.Bids = bidsOf(3, 3, 0, 8, 4, 0, 20, 4, 0, 21, 4, 0) }), "8 0.00\n20 0.00\n21 0.00\ntotal 0.00\n"},
		{"a few hundredths", closed(func(s *impl.Stage) { s.Clock.Bids = bidsOf(3, 3, 0, 8, 4, 1, 20, 4, 2, 21, 4, 97) }), "8 0.01\n20 0.02\n21 0.97\ntotal 1.00\n"},
		{"the greatest", closed(func(s *impl.Stage) { s.Clock.Bids = bidsOf(3, 3, 0, 8, 4, maxBid, 20, 4, maxBid, 21, 4, maxBid-1) }), "8 10000000.00\n20 10000000.00\n21 9999999.99\ntotal 29999999.99\n"},
		{"the most there is", last, lastText + "total 120000000.00\n"},
		{"ended", fourStage(), ""},
		{"bidding", biddingStage(), ""},
		{"failed", failedStage(), ""},
		{"all out, not closed", outStage(), ""},
		{"all out, failed", rightStages()["all out, failed"], ""},
		{"Closed and Failed", wrongStages()["Closed and Failed"], ""},
		{"both, and all out", wrongStages()["both, and all out"], ""},
		{"Closed, and its Clock is not right", closed(func(s *impl.Stage) { s.Clock.Step = 0 }), ""},
		{"Closed, and a frozen one", wrongStages()["a frozen one while Closed"], ""},
		{"nothing, but Closed", impl.Stage{Closed: true}, ""},
	} {
		wantReport(t, c.what, impl.PaysText(c.stage), c.want)
		wantReport(t, c.what+", by hand", paysTextByHand(c.stage), c.want)
	}
}

func TestStageTextAtItsEdges(t *testing.T) {
	four := "3 out 0.00\n8 frozen 0.20\n20 frozen 0.30\n21 frozen 0.40\n3 4\n"
	for _, c := range []struct {
		what  string
		stage impl.Stage
		want  string
	}{
		{"ended", fourStage(), "stage 0\ntop 4\n" + four},
		{"bidding", biddingStage(), "stage 0\ntop 4\n3 out 0.00\n8 active 0.20\n20 active 0.30\n21 active 0.40\n3 4\n"},
		{"failed", failedStage(), "stage 3\ntop 51\n" + four},
		{"failed ahead of its last top", rightStages()["failed ahead of its last"], "stage 0\ntop 4\n" + four},
		{"closed", closedStage(), "stage 0\ntop 4\n3 out 0.00\n8 won 0.20\n20 won 0.30\n21 won 0.40\n3 4\n8 0.20\n20 0.30\n21 0.40\ntotal 0.90\n"},
		{"at its last place", rightStages()["at the last place"], "stage 3\ntop 51\n" + four},
		{"the sixth top", withStage(func(s *impl.Stage) { s.Tops, s.At, s.Clock.Top = []int64{4, 5, 6, 7, 8, 9}, 5, 9 }), "stage 5\ntop 9\n" + four},
		{"all out", outStage(), "stage 2\ntop 6\n3 out 0.00\n8 out 0.00\n20 out 0.00\n21 out 0.00\n3 4\n8 3\n20 6\n21 6\n"},
		{"all out, closed", rightStages()["all out, closed"], "stage 2\ntop 6\n3 out 0.00\n8 out 0.00\n20 out 0.00\n21 out 0.00\n3 4\n8 3\n20 6\n21 6\ntotal 0.00\n"},
		{"nobody out", rightStages()["nobody out"], "stage 0\ntop 4\n3 frozen 0.00\n8 frozen 0.20\n20 frozen 0.30\n21 frozen 0.40\n"},
		{"nobody out, closed", rightStages()["nobody out, closed"], "stage 0\ntop 4\n3 won 0.00\n8 won 0.20\n20 won 0.30\n21 won 0.40\n3 0.00\n8 0.20\n20 0.30\n21 0.40\ntotal 0.90\n"},
		{"LowChannel as top", impl.StageOpen(oneStation(1, 1000, 2), []int64{2}, impl.MaxPrice, 1, 1, nil, 0).Stage, "stage 0\ntop 2\n1 active 10000000.00\n"},
		{"At beyond its Tops", wrongStages()["At 4"], ""},
		{"At below 0", wrongStages()["At -1"], ""},
		{"Top is not the one at At", wrongStages()["Top is not the one at At"], ""},
		{"nothing", impl.Stage{}, ""},
	} {
		wantReport(t, c.what, impl.StageText(c.stage), c.want)
		wantReport(t, c.what+", by hand", stageTextByHand(c.stage), c.want)
	}
}

// A clock or a stage that is not right has the empty text; what of it is right by itself, and the plan, are told.
func TestReportsOfWrongThings(t *testing.T) {
	for what, c := range wrongClocks() {
		wantText(t, what, impl.BidsText(c), "")
		wantReport(t, what+", its Plan", impl.PlanText(c.Plan), planTextByHand(c.Plan))
	}
	clocks := 0
	for what, s := range wrongStages() {
		wantText(t, what+", its pays", impl.PaysText(s), "")
		wantText(t, what, impl.StageText(s), "")
		wantReports(t, what, s)
		// Closed, a few of them are right.
		s.Closed = true
		wantReports(t, what+", Closed", s)
		if impl.BidsText(s.Clock) != "" {
			clocks++
		}
	}
	if clocks < 20 {
		t.Errorf("of all stages that are not right %d have a right clock", clocks)
	}
}

func TestAskTextAtItsEdges(t *testing.T) {
	plan := placesOf(3, 4, 8, 3)
	proof := [][]int64{{-1, -5}, {-1}, {}}
	many := slices.Repeat([]impl.Place{{Id: 7, Channel: 2}}, impl.MaxList)
	for _, c := range []struct {
		what   string
		answer impl.AskOut
		want   string
	}{
		{"yes", yesAsked(2, plan), "yes 2\n3 4\n8 3\n"},
		{"yes by adding", addedAsked(3, 4, 8, 3), "yes 0\n3 4\n8 3\n"},
		{"yes by no way", impl.AskOut{Verdict: impl.Yes, Plan: plan, Steps: 1}, "yes 1\n3 4\n8 3\n"},
		{"yes of nobody", yesAsked(1, nil), "yes 1\n"},
		{"yes of an empty list", yesAsked(1, []impl.Place{}), "yes 1\n"},
		{"yes behind lemmas", yesAsked(4, plan, proof...), "yes 4\n3 4\n8 3\n"},
		{"yes behind lemmas that are not right", yesAsked(4, plan, []int64{0}), "yes 4\n3 4\n8 3\n"},
		{"yes, any Places", yesAsked(0, placesOf(-3, math.MinInt64, -3, 0)), "yes 0\n-3 -9223372036854775808\n-3 0\n"},
		{"yes, MaxList Places", yesAsked(9, many), "yes 9\n" + strings.Repeat("7 2\n", impl.MaxList)},
		{"yes, one Place more", yesAsked(9, append(many, impl.Place{})), "yes 9\n"},
		{"no", noAsked(3, proof...), "no 3\n-1 -5 0\n-1 0\n0\n"},
		{"no by no way", impl.AskOut{Verdict: impl.No, Lemmas: proof, Steps: 3}, "no 3\n-1 -5 0\n-1 0\n0\n"},
		{"no, the empty lemma", noAsked(1, nil), "no 1\n0\n"},
		{"no, an empty list as lemma", noAsked(1, []int64{}), "no 1\n0\n"},
		{"no, without lemmas", noAsked(1), "no 1\n"},
		{"no, an empty list of lemmas", impl.AskOut{Verdict: impl.No, Lemmas: [][]int64{}, Steps: 1}, "no 1\n"},
		{"no, with a plan", impl.AskOut{Verdict: impl.No, Plan: plan, Lemmas: proof, Steps: 3}, "no 3\n-1 -5 0\n-1 0\n0\n"},
		{"no, with a plan of too many", impl.AskOut{Verdict: impl.No, Plan: append(many, many...), Lemmas: proof, Steps: 3}, "no 3\n-1 -5 0\n-1 0\n0\n"},
		{"no, a proof that is not whole", noAsked(2, []int64{7}), "no 2\n7 0\n"},
		{"unknown", unknownAsked(7), "unknown 7\n"},
		{"unknown behind lemmas", unknownAsked(7, proof...), "unknown 7\n"},
		{"unknown, lemmas that are not right", unknownAsked(7, []int64{0}), "unknown 7\n"},
		{"unknown, with a plan", impl.AskOut{Verdict: impl.Unknown, Plan: plan, Lemmas: proof, Steps: 7}, "unknown 7\n"},
		{"nothing", impl.AskOut{}, ""},
	} {
		wantAskText(t, c.what, c.answer, c.want)
		_, behind, _ := strings.Cut(c.want, "\n")
		word, _, _ := strings.Cut(c.want, " ")
		for _, steps := range []int64{0, 1, 300, 301, -1, 10000000, math.MaxInt64, math.MinInt64} {
			a := c.answer
			a.Steps = steps
			want := ""
			if c.want != "" {
				want = fmt.Sprint(word, " ", steps, "\n", behind)
			}
			wantAskText(t, fmt.Sprint(c.what, " in ", steps), a, want)
		}
		for _, how := range []int64{-1, 0, impl.HowAdd, impl.HowSolve, 3, math.MinInt64} {
			a := c.answer
			a.How = how
			wantAskText(t, fmt.Sprint(c.what, " by ", how), a, c.want)
		}
		for _, code := range []int64{-1, impl.ErrForm, impl.ErrSize, impl.ErrSyntax, impl.ErrOver, impl.ErrSum, impl.ErrShort, impl.ErrNone, impl.ErrState, impl.ErrInfeasible, impl.ErrFull, 11, 1 << 32, math.MinInt64, math.MaxInt64} {
			a := c.answer
			a.Code = code
			wantAskText(t, fmt.Sprint(c.what, " with the code ", code), a, "")
		}
		for _, verdict := range []int64{0, 4, 5, -1, -2, -3, 257, 1<<32 + 1, math.MinInt64, math.MaxInt64} {
			a := c.answer
			a.Verdict = verdict
			wantAskText(t, fmt.Sprint(c.what, " with the verdict ", verdict), a, "")
		}
	}
}

// Of a No the first line is told, whatever its lemmas are; they are told, if they have a text.
func TestAskTextOfLemmas(t *testing.T) {
	for what, lemmas := range rightLemmas() {
		wantAskText(t, what, noAsked(5, lemmas...), "no 5\n"+linesByHand(lemmas))
		wantAskText(t, what+", yes", yesAsked(5, placesOf(3, 4), lemmas...), "yes 5\n3 4\n")
		wantAskText(t, what+", unknown", unknownAsked(5, lemmas...), "unknown 5\n")
	}
	for what, lemmas := range wrongLemmas() {
		wantAskText(t, what, noAsked(5, lemmas...), "no 5\n")
		wantAskText(t, what+", yes", yesAsked(5, placesOf(3, 4), lemmas...), "yes 5\n3 4\n")
		wantAskText(t, what+", unknown", unknownAsked(5, lemmas...), "unknown 5\n")
	}
	for _, more := range []int{1, 2, 1000} {
		wantAskText(t, fmt.Sprint("beyond MaxBytes by ", more), noAsked(5, lemmasOfSize(impl.MaxBytes+more)...), "no 5\n")
	}
	// The limit is one of the lemmas' own text, not of the answer.
	if got := len(impl.AskText(noAsked(300, lemmasOfSize(impl.MaxBytes)...))); got != impl.MaxBytes+len("no 300\n") {
		t.Errorf("the lemmas of MaxBytes bytes are told in %d bytes", got)
	}
}

// What the oracle answers, with each verdict, by adding and by solving.
func TestAskTextOfTheOracle(t *testing.T) {
	four, crowd, tight := fourStations(), crowdOn(4, 3), crowdOf([]int64{2, 3}, []int64{2, 4}, []int64{2, 4})
	ids := []int64{1, 2, 3, 4}
	for _, c := range []struct {
		what   string
		answer impl.AskOut
		want   string
	}{
		{"all, yes", impl.AskAll(four, 51, []int64{3, 8, 20, 21}, 100), "yes 5\n3 4\n8 3\n20 6\n21 6\n"},
		{"all of nobody", impl.AskAll(four, 51, nil, 100), "yes 1\n"},
		{"all, yes behind a lemma", impl.AskAll(tight, 51, []int64{1, 2, 3}, 4), "yes 4\n1 3\n2 2\n3 4\n"},
		{"all, no at once", impl.AskAll(four, 5, []int64{21}, 100), "no 1\n0\n"},
		{"all, no", impl.AskAll(crowd, 51, ids, 100), "no 11\n-1 -5 0\n-1 0\n-2 -4 0\n-2 0\n-4 0\n0\n"},
		{"all, not within so many steps", impl.AskAll(crowd, 51, ids, 10), "unknown 10\n"},
		{"all, no step", impl.AskAll(crowd, 51, ids, 0), "unknown 0\n"},
		{"all, wrong ids", impl.AskAll(crowd, 51, []int64{2, 1}, 100), ""},
		{"all, a wrong budget", impl.AskAll(crowd, 51, ids, impl.MaxSolve+1), ""},
		{"all, too many ids", impl.AskAll(crowd, 51, make([]int64, impl.MaxList+1), 100), ""},
		{"one, by adding", impl.AskOne(four, 51, placesOf(3, 4, 21, 6), 8, 0), "yes 0\n3 4\n8 3\n21 6\n"},
		{"one, by solving", impl.AskOne(tight, 51, placesOf(1, 2, 2, 4), 3, 100), "yes 4\n1 3\n2 2\n3 4\n"},
		{"one, no", impl.AskOne(crowdOn(3, 2), 51, placesOf(1, 3, 3, 2), 2, 100), "no 3\n-1 0\n0\n"},
		{"one, not within so many steps", impl.AskOne(crowdOn(3, 2), 51, placesOf(1, 3, 3, 2), 2, 2), "unknown 2\n"},
		{"one that is in the plan", impl.AskOne(four, 51, placesOf(3, 4), 3, 100), ""},
	} {
		wantAskText(t, c.what, c.answer, c.want)
	}
	yes, no := impl.AskAll(longYes(0), 51, channels(1, 7), impl.MaxSolve), impl.AskAll(longNo(), 51, channels(1, 7), impl.MaxSolve)
	wantAskText(t, "yes in 298", yes, "yes 298\n"+planTextByHand(yes.Plan))
	wantAskText(t, "no in 299", no, "no 299\n"+linesByHand(no.Lemmas))
	wantAskText(t, "unknown in 297", impl.AskAll(longYes(0), 51, channels(1, 7), 297), "unknown 297\n")
}

// Answers of any stations, and what is left of them when one thing is changed.
func TestAskTextByHand(t *testing.T) {
	random := rand.New(rand.NewSource(172))
	counts := map[int64]int{}
	for i := range 240 {
		table, top, ids := askCase(random, i)
		budget := []int64{impl.MaxSolve, random.Int63n(4)}[random.Intn(2)]
		a := impl.AskAll(table, top, ids, budget)
		if len(ids) > 0 && i%2 == 0 {
			plan, id := planCase(random, table, top, ids)
			a = impl.AskOne(table, top, plan, id, budget)
		}
		counts[a.Verdict]++
		what := fmt.Sprintf("%+v", a)
		wantAskText(t, what, a, askTextByHand(a))
		things := map[int64]int{impl.Yes: len(a.Plan), impl.No: len(a.Lemmas)}[a.Verdict]
		if lines := strings.Count(impl.AskText(a), "\n"); lines != 1+things {
			t.Errorf("%.900s: %d lines of %d things", what, lines, things)
		}
		if i%8 < 2 {
			for change, other := range changedAnswers(a, table) {
				wantAskText(t, what+", "+change, other, askTextByHand(other))
			}
		}
	}
	if counts[impl.Yes] < 40 || counts[impl.No] < 40 || counts[impl.Unknown] < 20 {
		t.Errorf("the answers are all of one kind: %v", counts)
	}
}

// reportsOf: all texts, of a stage and an answer.
func reportsOf(s impl.Stage, a impl.AskOut) []string {
	return []string{impl.BidsText(s.Clock), impl.PlanText(s.Clock.Plan), impl.PaysText(s), impl.StageText(s), impl.AskText(a)}
}

func TestReportsChangeNothing(t *testing.T) {
	random := rand.New(rand.NewSource(173))
	for i := range 300 {
		s := roomyStage(anyStage(random, i))
		table, top, ids := askCase(random, i)
		a := keptAsked(impl.AskAll(table, top, ids, impl.MaxSolve))
		a.Plan = roomyPlan(a.Plan)
		for at, lemma := range a.Lemmas {
			a.Lemmas[at] = roomyIds(lemma)
		}
		stageBefore, askedBefore, planBefore := beyondStage(s), keptAsked(a), slices.Clone(a.Plan[:cap(a.Plan)])
		beyondLemmas := func() [][]int64 {
			lists := [][]int64(nil)
			for _, lemma := range a.Lemmas {
				lists = append(lists, slices.Clone(lemma[:cap(lemma)]))
			}
			return lists
		}
		lemmasBefore := beyondLemmas()
		texts := reportsOf(s, a)
		what := fmt.Sprintf("%+v, %+v", s, a)
		wantReplies(t, what+", again", reportsOf(s, a), texts)
		if !stagesAlike(beyondStage(s), stageBefore) || !sameAsked(a, askedBefore) || !slices.Equal(a.Plan[:cap(a.Plan)], planBefore) ||
			!slices.EqualFunc(beyondLemmas(), lemmasBefore, slices.Equal[[]int64]) {
			t.Errorf("%.900s: what was handed in is changed", what)
		}
		// What was handed in may change behind the texts, which stay as they are.
		kept := []string(nil)
		for _, text := range texts {
			kept = append(kept, strings.Clone(text))
		}
		for _, given := range heldInStage(s) {
			given.spoil()
		}
		spoilPlaces(a.Plan)
		for _, lemma := range a.Lemmas {
			spoilNumbers(lemma)
		}
		wantReplies(t, what+", behind what is changed", texts, kept)
	}
}

func TestReportsKeepNothing(t *testing.T) {
	random := rand.New(rand.NewSource(174))
	s, a := closedStage(), noAsked(3, []int64{-1}, nil)
	texts := reportsOf(s, a)
	for i := range 100 {
		other := anyStage(random, i)
		table, top, ids := askCase(random, i)
		reportsOf(other, impl.AskAll(table, top, ids, 6))
		reportsOf(impl.Stage{}, impl.AskOut{Code: impl.ErrForm})
		wantReplies(t, "again", reportsOf(s, a), texts)
	}
}

// A call in each of some goroutines at the same time answers what it answers alone.
func TestReportsAtTheSameTime(t *testing.T) {
	s, a := closedStage(), noAsked(3, []int64{-1}, nil)
	texts := reportsOf(s, a)
	told := make(chan []string)
	for range 20 {
		go func() { told <- reportsOf(s, a) }()
	}
	for range 20 {
		wantReplies(t, "at the same time", <-told, texts)
	}
}
