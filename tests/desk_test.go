package tests

import (
	"fmt"
	"math/rand"
	"regexp"
	"runtime"
	"slices"
	"strings"
	"testing"
	"unsafe"

	"loop.example/g00144/impl"
)

// ownForm: the lines of the desk's own, but for how great a number may be.
var ownForm = regexp.MustCompile(`^(bids|plan|pays|stage|lines|ask( (0|[1-9][0-9]*))*)$`)

// ownWords: the words of the desk's own lines.
func ownWords() []string {
	return []string{"bids", "plan", "pays", "stage", "ask", "lines"}
}

// ownByHand: the word and the numbers of a line of the desk's own, if it is one.
func ownByHand(line string) (string, []int64, bool) {
	return partsByHand(line, ownForm)
}

// takenByHand: may such a line stand in a desk's text?
func takenByHand(line string) bool {
	_, _, engine := lineByHand(line)
	_, _, own := ownByHand(line)
	return engine || own
}

// deskFaultByHand: what DeskFault is to tell.
func deskFaultByHand(text string) impl.DeskOut {
	if len(text) > 20000 {
		return impl.DeskOut{Code: impl.ErrSize}
	}
	for at := int64(0); text != ""; at++ {
		line, rest, ended := strings.Cut(text, "\n")
		if at >= 100 || !ended || !takenByHand(line) {
			return impl.DeskOut{Line: at, Code: impl.ErrSyntax}
		}
		text = rest
	}
	return impl.DeskOut{}
}

// ownToldByHand: what a line of the desk's own is to tell, behind so many lines that changed the engine.
func ownToldByHand(e impl.Engine, changed int, word string, ids []int64) string {
	if word == "lines" {
		return fmt.Sprintln(changed)
	}
	if !e.Opened {
		return "error 8\n"
	}
	switch word {
	case "bids":
		return bidsTextByHand(e.Stage.Clock)
	case "plan":
		return planTextByHand(e.Stage.Clock.Plan)
	case "pays":
		return paysTextByHand(e.Stage)
	case "stage":
		return stageTextByHand(e.Stage)
	}
	a := allAskedByHand(e.Table, e.Stage.Clock.Top, ids, e.Stage.Clock.Budget)
	if a.Code != impl.OK {
		return "error 1\n"
	}
	return askTextByHand(a)
}

// deskByHand: what DeskRun is to tell.
func deskByHand(text string) impl.DeskOut {
	out := deskFaultByHand(text)
	if out.Code != impl.OK {
		return out
	}
	e, changed := impl.Engine{}, 0
	for _, line := range deskLines(text) {
		if word, ids, own := ownByHand(line); own {
			out.Text += ownToldByHand(e, changed, word, ids)
			continue
		}
		done := engineDoByHand(e, line)
		if done.Code != impl.OK {
			out.Text += fmt.Sprintf("error %d\n", done.Code)
			continue
		}
		out.Text += done.Reply + "\n"
		e = done.Engine
		if done.Changed {
			changed++
		}
	}
	return out
}

// deskText: a text of lines.
func deskText(lines ...string) string {
	text := ""
	for _, line := range lines {
		text += line + "\n"
	}
	return text
}

// deskLines: the lines of a text of whole lines.
func deskLines(text string) []string {
	lines := strings.Split(text, "\n")
	return lines[:len(lines)-1]
}

// withoutOwn: those that are no lines of the desk's own.
func withoutOwn(lines []string) []string {
	return slices.DeleteFunc(slices.Clone(lines), func(line string) bool {
		_, _, own := ownByHand(line)
		return own
	})
}

// wantDesk: what a text tells, that its fault is the same without the text, and that by hand it is the same.
func wantDesk(t *testing.T, what string, text string, want impl.DeskOut) {
	t.Helper()
	wantDeskOut(t, what, impl.DeskRun(text), want)
	wantDeskOut(t, what+", by hand", deskByHand(text), want)
	want.Text = ""
	wantDeskOut(t, what+", its fault", impl.DeskFault(text), want)
	wantDeskOut(t, what+", its fault by hand", deskFaultByHand(text), want)
}

// wantDeskOut holds all that is told; of two texts it shows where they part.
func wantDeskOut(t *testing.T, what string, got impl.DeskOut, want impl.DeskOut) {
	t.Helper()
	if got == want {
		return
	}
	alike := 0
	for alike < min(len(got.Text), len(want.Text)) && got.Text[alike] == want.Text[alike] {
		alike++
	}
	t.Fatalf("%.900s: got %.100q at %d, with the line %d and the code %d, want %.100q with %d and %d", what, got.Text[alike:], alike, got.Line, got.Code, want.Text[alike:], want.Line, want.Code)
}

// wantTyped: a text is taken, and tells that.
func wantTyped(t *testing.T, what string, text string, told string) {
	t.Helper()
	wantDesk(t, what, text, impl.DeskOut{Text: told})
}

// wantDeskFault: a text is refused for the line at that place.
func wantDeskFault(t *testing.T, what string, text string, line int) {
	t.Helper()
	wantDesk(t, what, text, impl.DeskOut{Line: int64(line), Code: impl.ErrSyntax})
}

// exchange: a line and what it tells.
type exchange struct {
	line string
	told string
}

// wantExchanges: lines are told one by one, as far as they go.
func wantExchanges(t *testing.T, what string, all []exchange) {
	t.Helper()
	text, told := "", ""
	for at, x := range all {
		text, told = text+x.line+"\n", told+x.told
		wantTyped(t, fmt.Sprintf("%s, up to line %d, %q", what, at, x.line), text, told)
	}
}

// setUp: the lines of twoLines, up to `open`, with all of the desk's own lines ahead of each.
func setUp() []exchange {
	all := []exchange(nil)
	for at, line := range twoLines()[:4] {
		all = append(all, exchange{"bids", "error 8\n"}, exchange{"plan", "error 8\n"}, exchange{"pays", "error 8\n"}, exchange{"stage", "error 8\n"},
			exchange{"ask", "error 8\n"}, exchange{"ask 1", "error 8\n"}, exchange{"lines", fmt.Sprintln(at)}, exchange{line, "ok\n"})
	}
	return append(all, exchange{"ask 1", "error 8\n"}, exchange{"lines", "4\n"}, exchange{"open 10 4 100 5 2 4", "active 1\n"})
}

// stepOf: a line with all of the desk's own lines behind it, at the first of two tops or at the second.
func stepOf(line string, told string, bids string, plan string, pays string, at int, changed int) []exchange {
	head, one, all := "stage 0\ntop 2\n", "yes 1\n1 2\n", "no 1\n0\n"
	if at > 0 {
		head, one, all = "stage 1\ntop 4\n", "yes 2\n1 2\n", "yes 2\n1 2\n2 4\n"
	}
	return []exchange{{line, told}, {"bids", bids}, {"plan", plan}, {"pays", pays}, {"stage", head + bids + plan + pays},
		{"ask", "yes 1\n"}, {"ask 1", one}, {"ask 1 2", all}, {"lines", fmt.Sprintln(changed)}}
}

// Promise 30: whole auctions, from the first station to closed or failed, with each of the desk's own lines at every step.
func TestDeskOfWholeAuctions(t *testing.T) {
	both := "1 2\n2 4\n"
	opened := stepOf("needs", "needs 55\n", "1 out 0.00\n2 active 0.50\n", "1 2\n", "", 0, 5)
	frozen := stepOf("round 2", "active 0 price 6\n", "1 out 0.00\n2 frozen 0.50\n", "1 2\n", "", 0, 6)
	again := stepOf("close 54", "stage 1 active 1\n", "1 out 0.00\n2 active 0.50\n", "1 2\n", "", 1, 7)
	stays := stepOf("round 2", "active 1 price 2\n", "1 out 0.00\n2 active 0.10\n", "1 2\n", "", 1, 8)
	for _, c := range []struct {
		what  string
		steps []exchange
	}{
		{"closed at its first top", slices.Concat(setUp(), opened, frozen,
			stepOf("close 55", "closed 55\n", "1 out 0.00\n2 won 0.50\n", "1 2\n", "2 0.50\ntotal 0.50\n", 0, 7),
			stepOf("close 55", "error 8\n", "1 out 0.00\n2 won 0.50\n", "1 2\n", "2 0.50\ntotal 0.50\n", 0, 7))},
		{"closed at its second top", slices.Concat(setUp(), frozen, again, stays[:1],
			stepOf("round", "active 0 price 0\n", "1 out 0.00\n2 out 0.00\n", both, "", 1, 9),
			stepOf("close 5", "closed 5\n", "1 out 0.00\n2 out 0.00\n", both, "total 0.00\n", 1, 10))},
		{"paid at its second top", slices.Concat(setUp(), frozen, again, stays,
			stepOf("round 2", "active 0 price 0\n", "1 out 0.00\n2 frozen 0.00\n", "1 2\n", "", 1, 9),
			stepOf("close 5", "closed 5\n", "1 out 0.00\n2 won 0.00\n", "1 2\n", "2 0.00\ntotal 0.00\n", 1, 10))},
		{"failed at its last top", slices.Concat(setUp(), frozen[:1], again,
			stepOf("round", "active 0 price 2\n", "1 out 0.00\n2 out 0.00\n", both, "", 1, 8),
			stepOf("close 4", "failed\n", "1 out 0.00\n2 out 0.00\n", both, "", 1, 9),
			stepOf("close 5", "error 8\n", "1 out 0.00\n2 out 0.00\n", both, "", 1, 9))},
	} {
		lines := []string(nil)
		for _, x := range c.steps {
			lines = append(lines, x.line)
		}
		wantExchanges(t, c.what, c.steps)
		wantPromise30(t, c.what, lines)
	}
}

// ownToldBy: what a line of the desk's own is to tell behind lines of the engine, by the functions of the other chapters.
func ownToldBy(line string, ahead []string) string {
	word, ids, _ := ownByHand(line)
	e := impl.EngineEnd(ahead)
	asked := impl.AskAll(e.Table, e.Stage.Clock.Top, ids, e.Stage.Clock.Budget)
	switch {
	case word == "lines":
		return fmt.Sprintln(len(changing(ahead)))
	case !e.Opened:
		return "error 8\n"
	case word == "ask" && asked.Code != impl.OK:
		return fmt.Sprintf("error %d\n", asked.Code)
	}
	return map[string]string{
		"bids": impl.BidsText(e.Stage.Clock), "plan": impl.PlanText(e.Stage.Clock.Plan), "pays": impl.PaysText(e.Stage),
		"stage": impl.StageText(e.Stage), "ask": impl.AskText(asked),
	}[word]
}

// toldBy: what the first lines are to tell, by the functions of the other chapters: none of them, the first one, the first two and on.
func toldBy(lines []string) []string {
	engine, ahead := withoutOwn(lines), 0
	replies := impl.EngineRun(engine)
	told := make([]string, len(lines)+1)
	for at, line := range lines {
		if _, _, own := ownByHand(line); own {
			told[at+1] = told[at] + ownToldBy(line, engine[:ahead])
			continue
		}
		told[at+1] = told[at] + replies[ahead] + "\n"
		ahead++
	}
	return told
}

// wantPromise30: no more than MaxDesk right lines tell what the engine and the reports tell, one by one, and lead through a log and a crash to the same end.
func wantPromise30(t *testing.T, what string, lines []string) {
	t.Helper()
	for at, told := range toldBy(lines) {
		if len(lines) > 40 && at%7 > 0 && at < len(lines) {
			continue
		}
		wantDeskOut(t, fmt.Sprintf("%s, the first %d lines", what, at), impl.DeskRun(deskText(lines[:at]...)), impl.DeskOut{Text: told})
	}
	all, engine := deskText(lines...), withoutOwn(lines)
	wantDeskOut(t, what+", its fault", impl.DeskFault(all), impl.DeskOut{})
	wantDeskOut(t, what+", by hand", impl.DeskRun(all), deskByHand(all))
	wantDeskOut(t, what+", without the desk's own", impl.DeskRun(deskText(engine...)), impl.DeskOut{Text: deskText(impl.EngineRun(engine)...)})
	wantThroughCrashes(t, what, engine)
}

// stageTyped: what `stage` tells at a desk behind lines, no more than MaxDesk with it.
func stageTyped(lines []string) string {
	return strings.TrimPrefix(impl.DeskRun(deskText(append(slices.Clone(lines), "stage")...)).Text, impl.DeskRun(deskText(lines...)).Text)
}

// crashesIn: after how many bytes records may be broken off: each number, or, where there are many bytes, those around each record's end and a few more.
func crashesIn(ends []int) []int {
	list := []int(nil)
	for keep := range ends[len(ends)-1] + 1 {
		near := slices.ContainsFunc(ends, func(end int) bool { return keep >= end-1 && keep <= end+1 })
		if near || ends[len(ends)-1] <= 600 || keep%29 == 0 {
			list = append(list, keep)
		}
	}
	return list
}

// wantThroughCrashes: a log of the lines is crashed and opened again; what is left is typed again at a desk, and what is lost is taken again.
func wantThroughCrashes(t *testing.T, what string, lines []string) {
	t.Helper()
	end, stay := impl.EngineEnd(lines), changing(lines)
	ends, run := []int{0}, impl.LogRun(lines).Disk
	for _, line := range stay {
		ends = append(ends, ends[len(ends)-1]+len(recordsOf(line)))
	}
	wantEngine(t, what+", its log", impl.LogEngine(run), end)
	whole := 0
	for _, keep := range crashesIn(ends) {
		for whole < len(stay) && ends[whole+1] <= keep {
			whole++
		}
		what := fmt.Sprintf("%.800s, crashed at %d", what, keep)
		opened := impl.LogOpen(impl.DiskCrash(impl.Disk{Loose: []string{run.Safe}}, int64(keep)))
		sameDisk(t, what, opened, impl.Disk{Safe: run.Safe[:ends[whole]]})
		wantReplies(t, what, impl.LogLines(opened), stay[:whole])
		if whole < len(stay) {
			torn := impl.LogTorn(impl.Disk{Safe: run.Safe[:ends[whole]]}, stay[whole], int64(keep-ends[whole]))
			sameDisk(t, what+", torn", torn, impl.Disk{Safe: run.Safe[:keep]})
		}
		// Within a record all numbers of bytes lead to the same lines.
		if keep == ends[whole] && (len(stay) <= 15 || whole%6 == 0 || whole == len(stay)) {
			wantLedOn(t, what, opened, stay, whole)
		}
	}
	if len(lines) < impl.MaxDesk {
		wantText(t, what+", what the log leads to", stageTyped(stay), stageTyped(lines))
	}
}

// wantLedOn: a log of the first lines leads to where they lead, at a desk, too; with the others it leads to the end of all.
func wantLedOn(t *testing.T, what string, d impl.Disk, lines []string, first int) {
	t.Helper()
	wantEngine(t, what, impl.LogEngine(d), impl.EngineEnd(lines[:first]))
	if first < impl.MaxDesk {
		wantText(t, what+", at a desk", stageTyped(impl.LogLines(d)), ownToldBy("stage", lines[:first]))
	}
	for _, line := range lines[first:] {
		d = impl.LogDo(d, line).Disk
	}
	wantEngine(t, what+", led on", impl.LogEngine(d), impl.EngineEnd(lines))
}

// typedAuction: the lines of an auction from its first station to closed or failed, without those that ask; at most so many.
func typedAuction(random *rand.Rand, i int, most int) []string {
	s := openStage(random, i)
	lines := tableLines(s.Clock.Table)
	if i%3 == 0 {
		// Hardly enough to open, so that not all that is asked is answered.
		s.Clock.Budget = impl.AskSteps(s.Clock.Table, s.Clock.Top, impl.PlanIds(s.Clock.Plan))
	}
	for _, place := range s.Clock.Plan {
		lines = append(lines, typed("must", place.Id))
	}
	lines = append(lines, typed("open", append([]int64{s.Clock.Price, s.Clock.Step, s.Clock.Budget, s.Fixed}, s.Tops...)...))
	for s = impl.EngineEnd(lines).Stage; !s.Closed && !s.Failed && len(lines) < most; s = impl.EngineEnd(lines).Stage {
		if len(activeByHand(s.Clock)) > 0 {
			lines = append(lines, typed("round", mostOf(random, s.Clock, 1)[0]...))
		} else {
			lines = append(lines, typed("close", needsByHand(s)*int64(random.Intn(5))/4))
		}
	}
	return lines[:min(len(lines), most)]
}

// askLine: an `ask` of some or of all Stations of a table, or one that AskAll refuses.
func askLine(random *rand.Rand, table impl.Table) string {
	ids := someOf(random, idsByHand(table))
	switch random.Intn(8) {
	case 0:
		ids = append(ids, []int64{0, 1, 999, 1000, impl.MaxMoney}[random.Intn(5)])
	case 1:
		slices.Reverse(ids)
	case 2:
		ids = idsByHand(table)
	}
	for len(typed("ask", ids...)) > impl.MaxLine {
		ids = ids[1:]
	}
	return typed("ask", ids...)
}

// ownLine: a line of the desk's own of that word; random is for what is asked.
func ownLine(random *rand.Rand, word string, ahead []string) string {
	if word == "ask" {
		return askLine(random, impl.EngineEnd(ahead).Table)
	}
	return word
}

// Promise 30, in any auctions: those that are short with all of the desk's own lines at every step, others with one.
func TestDeskOfAnyAuctions(t *testing.T) {
	t.Parallel()
	random := rand.New(rand.NewSource(30))
	counts := map[string]int{}
	for i := range 60 {
		auction := typedAuction(random, i, 49)
		lines := []string(nil)
		for at, line := range auction {
			lines = append(lines, line)
			for nth, word := range ownWords() {
				if len(auction) <= 14 || nth == (at+i)%6 {
					lines = append(lines, ownLine(random, word, auction[:at+1]))
				}
			}
		}
		wantPromise30(t, fmt.Sprintf("%q", lines), lines)
		counts["with all"] += max(min(15-len(auction), 1), 0)
		s := impl.EngineEnd(auction).Stage
		counts[fmt.Sprint("closed ", s.Closed)]++
		counts[fmt.Sprint("failed ", s.Failed)]++
		counts[fmt.Sprint("at ", s.At)]++
		for _, line := range deskLines(impl.DeskRun(deskText(lines...)).Text) {
			counts[strings.Split(line, " ")[0]]++
		}
	}
	for what, least := range map[string]int{"with all": 10, "closed true": 15, "failed true": 15, "at 1": 8, "at 2": 4, "yes": 60, "no": 20, "unknown": 3, "error": 60, "total": 10, "stage": 60} {
		if counts[what] < least {
			t.Errorf("the auctions are all of one kind: %s of %v", what, counts)
			break
		}
	}
}

// Promise 30, with lines that are refused, that only ask and that come too late among them.
func TestDeskOfAnyLines(t *testing.T) {
	t.Parallel()
	random := rand.New(rand.NewSource(180))
	counts := map[string]int{}
	for range 60 {
		lines, ahead := []string(nil), []string(nil)
		for _, line := range anyLines(random, 10+random.Intn(60)) {
			if random.Intn(3) == 0 {
				lines = append(lines, ownLine(random, ownWords()[random.Intn(6)], ahead))
			}
			if impl.LineRight(line) {
				lines, ahead = append(lines, line), append(ahead, line)
			}
		}
		lines = lines[:min(len(lines), impl.MaxDesk)]
		wantPromise30(t, fmt.Sprintf("%q", lines), lines)
		for _, line := range deskLines(impl.DeskRun(deskText(lines...)).Text) {
			counts[strings.Split(line, " ")[0]]++
		}
	}
	for _, kind := range []string{"ok", "active", "stage", "closed", "failed", "needs", "state", "channel", "error", "yes", "no", "top", "total"} {
		if counts[kind] < 5 {
			t.Errorf("%s is told %d times: %v", kind, counts[kind], counts)
		}
	}
}

// wantTaken: if such a line may stand in a text, alone, first, among others and last, at an engine that is opened and at one that is not.
func wantTaken(t *testing.T, line string, want bool) {
	t.Helper()
	if strings.Contains(line, "\n") || takenByHand(line) != want {
		t.Fatalf("%.100q: by hand it is to be taken: %v", line, !want)
	}
	opened := twoLines("lines")
	for at, lines := range [][]string{{line}, {line, "lines"}, {"lines", line}, append(slices.Clone(opened), line), append(slices.Clone(opened), line, "lines", "needs")} {
		what := fmt.Sprintf("%.100q, %d", line, at)
		got := impl.DeskRun(deskText(lines...))
		if fault := impl.DeskFault(deskText(lines...)); (fault.Code == impl.OK) != want {
			t.Errorf("%s: the code is %d", what, fault.Code)
		}
		if want {
			wantTyped(t, what, deskText(lines...), got.Text)
		} else {
			wantDeskFault(t, what, deskText(lines...), slices.Index(lines, line))
		}
	}
}

func TestDeskTakesLines(t *testing.T) {
	for _, word := range ownWords() {
		wantTaken(t, word, true)
		wantTaken(t, word+" 1", word == "ask")
		wantTaken(t, word+" 0", word == "ask")
		wantTaken(t, word+" 1 2", word == "ask")
		wantTaken(t, word+" 1000000000000", word == "ask")
		for _, line := range []string{word + " ", " " + word, "  " + word, word + "  ", word + "  1", word + " 1 ", word + " 1  2", " " + word + " 1", word + " x", word + " " + word, word + " -1", word + " 01",
			strings.ToUpper(word), strings.ToUpper(word[:1]) + word[1:], word[:len(word)-1] + strings.ToUpper(word[len(word)-1:]), strings.ToUpper(word) + " 1",
			word[:len(word)-1], word[1:], word[:1], word + "x", word + "s", "x" + word, word + word, word + "1", word + ",", word + ".", word + ";", word + "\t", "\t" + word, word + "\t1", word + "\r", "\r" + word,
			word + "\x00", "\x00" + word, word[:2] + "\x00" + word[2:], word + "\x7f", word + "\x80", word + "\xff", "\xff" + word, word + "\u00a0", "\u00a0" + word, word + "\u2003", "\ufeff" + word, word + "\u0301", word + " 1\r", word + " \xff"} {
			wantTaken(t, line, line == "bid 1")
		}
	}
	for _, line := range []string{"station 1 10 2", "station 1 10 2 3 4", "same 1 2", "beside 1 2", "must 1", "open 10 4 100 5 2", "open 10 4 100 5 2 4", "round", "round 1 2", "close 5", "needs", "total", "bid 1", "channel 1"} {
		wantTaken(t, line, true)
		for _, other := range []string{line + " ", " " + line, strings.ToUpper(line), line + "\r", line + "\t", line + "\x00", "x" + line, line + " x", line + "\xff", line[1:]} {
			wantTaken(t, other, false)
		}
	}
	for _, line := range []string{"", " ", "  ", "\t", "\r", "\x00", "\x7f", "\x80", "\xff", "é", "0", "1", "17", "-", ".", "ok", "yes 2", "error 8", "help", "quit", "desk", "report", "state", "stages", "status", "bid", "bids 1", "asks", "line", "pay", "plans",
		"station", "station 1 10", "same 1", "same 1 2 3", "must", "must 1 2", "open 10 4 100 5", "close", "close 5 5", "needs 1", "total 1", "bid 1 2", "channel", "lines lines", "lines;lines", "stage 0", "ask 1,2", "ask all", "\xa0lines", "liñes"} {
		wantTaken(t, line, false)
	}
}

func TestDeskTakesNumbersToAsk(t *testing.T) {
	for _, row := range []string{"ask N", "ask N 5", "ask 5 N", "ask 5 N 7"} {
		for _, n := range []string{"0", "1", "9", "10", "999", "1000", "1000000", "99999999999", "999999999999", "1000000000000"} {
			wantTaken(t, strings.Replace(row, "N", n, 1), true)
		}
		for _, n := range []string{"1000000000001", "9999999999999", "10000000000000", "99999999999999", "9223372036854775808", "18446744073709551617",
			"00", "01", "007", "0000000000001", "00000000000001", "-0", "-1", "+0", "+1", "--1", "1-", "-", "+", "", " ", "x", "1x", "0x1", "1e3", "1.0", "1,0", "1_0", "½", "١", "１", "1\t", "1\r", "1\x00", "\x00", "\xff"} {
			wantTaken(t, strings.Replace(row, "N", n, 1), false)
		}
	}
	for count := range 40 {
		wantTaken(t, "ask"+strings.Repeat(" 7", count), 3+2*count <= impl.MaxLine)
		wantTaken(t, "ask 10"+strings.Repeat(" 7", count), 6+2*count <= impl.MaxLine)
	}
}

func TestDeskOfTheLengthOfALine(t *testing.T) {
	for _, c := range []struct {
		line  string
		size  int
		taken bool
	}{
		{"ask" + strings.Repeat(" 7", 28), 59, true},
		{"ask 10" + strings.Repeat(" 7", 27), 60, true},
		{"ask" + strings.Repeat(" 7", 29), 61, false},
		{"ask 1000000000000 1000000000000 1000000000000 1000000000000", 59, true},
		{"ask 1000000000000 1000000000000 1000000000000 1000000000000 ", 60, false},
		{"ask 1000000000000 1000000000000 1000000000000 10000000000000", 60, false},
		{"ask 1000000000000 1000000000000 1000000000000 100000000000 1", 60, true},
		{"ask 1000000000000 1000000000000 1000000000000 1000000000000 1", 61, false},
		{"round 1000000000000 1000000000000 1000000000000 100000000000", 60, true},
		{"round 1000000000000 1000000000000 1000000000000 1000000000000", 61, false},
		{"round 10" + strings.Repeat(" 1", 26), 60, true},
		{"round" + strings.Repeat(" 1", 28), 61, false},
		{"open" + strings.Repeat(" 5", 28), 60, true},
		{"open 15" + strings.Repeat(" 5", 27), 61, false},
		{"station 1 1" + strings.Repeat(" 7", 23) + " 51", 60, true},
		{"station 1 1" + strings.Repeat(" 7", 25), 61, false},
		{strings.Repeat("x", 60), 60, false},
		{strings.Repeat(" ", 60), 60, false},
		{"lines" + strings.Repeat(" ", 55), 60, false},
		{"ask" + strings.Repeat(" 1", 9900), 19803, false},
	} {
		if len(c.line) != c.size {
			t.Fatalf("%.70q has %d bytes", c.line, len(c.line))
		}
		wantTaken(t, c.line, c.taken)
	}
	most := "ask 100" + strings.Repeat(" 7", 26) + "\n"
	wantTyped(t, "at its length", deskText(twoLines()...)+most, "ok\nok\nok\nok\nactive 1\nerror 1\n")
	wantTyped(t, "at its length, not opened", most, "error 8\n")
	// The greatest number of lines of the greatest length: far fewer than MaxBytes bytes.
	wantTyped(t, "MaxDesk at their length", strings.Repeat(most, impl.MaxDesk), strings.Repeat("error 8\n", impl.MaxDesk))
}

// The text of no lines, of one, of MaxDesk, and of more.
func TestDeskOfHowManyLines(t *testing.T) {
	wantTyped(t, "no line", "", "")
	for _, count := range []int{1, 2, 50, impl.MaxDesk - 1, impl.MaxDesk} {
		wantTyped(t, fmt.Sprint(count, " lines"), strings.Repeat("lines\n", count), strings.Repeat("0\n", count))
		wantTyped(t, fmt.Sprint(count, " lines of the engine"), strings.Repeat("needs\n", count), strings.Repeat("error 8\n", count))
		wantTyped(t, fmt.Sprint(count, " that tell nothing"), deskText(twoLines()[:5]...)+strings.Repeat("pays\n", max(count-5, 0)), "ok\nok\nok\nok\nactive 1\n")
		// One that has no line feed is one line more.
		wantDeskFault(t, fmt.Sprint(count, " lines, the last broken off"), strings.Repeat("lines\n", count-1)+"lines", count-1)
		wantDeskFault(t, fmt.Sprint(count, " lines and one that is broken off"), strings.Repeat("lines\n", count)+"lines", count)
		wantDeskFault(t, fmt.Sprint(count, " lines and one that is none"), strings.Repeat("lines\n", count)+"x\n", count)
		wantDeskFault(t, fmt.Sprint(count, " lines and one that is empty"), strings.Repeat("lines\n", count)+"\n", count)
		wantDeskFault(t, fmt.Sprint(count, " lines and a blank"), strings.Repeat("lines\n", count)+" ", count)
	}
	full := strings.Repeat("lines\n", impl.MaxDesk)
	for _, more := range []string{"lines\n", "ask 1\n", "needs\n", "x\n", "\n", "\x00\n", "lines", "x", " ", "\xff", strings.Repeat("lines\n", 2), strings.Repeat("lines\n", 3000), "lines\nx\n", "x\nlines\nx", filled(5000), strings.Repeat("\n", 19000), "round" + strings.Repeat(" 1", 5000) + "\n"} {
		wantDeskFault(t, fmt.Sprintf("MaxDesk and %.30q", more), full+more, impl.MaxDesk)
		// A line that is none is named, if it is ahead of the first one beyond MaxDesk.
		for _, at := range []int{0, 1, 50, impl.MaxDesk - 1} {
			wantDeskFault(t, fmt.Sprintf("one that is none and %.30q", more), strings.Repeat("lines\n", at)+"x\n"+strings.Repeat("lines\n", impl.MaxDesk-at-1)+more, at)
			wantDeskFault(t, fmt.Sprintf("one that is empty and %.30q", more), strings.Repeat("lines\n", at)+"\n"+strings.Repeat("lines\n", impl.MaxDesk-at-1)+more, at)
		}
	}
	opened := deskText(twoLines()...)
	wantTyped(t, "MaxDesk behind an opening", opened+strings.Repeat("total\nstage\n", 47)+"lines\n", "ok\nok\nok\nok\nactive 1\n"+strings.Repeat("total 50\nstage 0\ntop 2\n1 out 0.00\n2 active 0.50\n1 2\n", 47)+"5\n")
	wantDeskFault(t, "one more behind an opening", opened+strings.Repeat("total\nstage\n", 47)+"lines\nlines\n", impl.MaxDesk)
}

func TestDeskOfLinesThatAreNone(t *testing.T) {
	for _, c := range []struct {
		text string
		line int
	}{
		{"\n", 0}, {"\n\n", 0}, {"lines\n\n", 1}, {"\nlines\n", 0}, {"lines\n\nlines\n", 1}, {"\n\n\n\n", 0},
		{"x\n", 0}, {"x", 0}, {" ", 0}, {"lines", 0}, {"needs", 0}, {"lines\nlines", 1}, {"lines\nneeds", 1}, {"lines\nx", 1}, {"x\nlines", 0}, {"lines\nx\nlines", 1}, {"lines\nx\nx", 1}, {"\nlines", 0}, {"lines\n ", 1},
		{"x\nlines\nlines\n", 0}, {"lines\nx\nlines\n", 1}, {"lines\nlines\nx\n", 2}, {"x\nx\nlines\n", 0}, {"lines\nx\nx\n", 1}, {"x\nlines\nx\n", 0},
		{"lines \nx\n", 0}, {"lines\r\n", 0}, {"lines\r\nlines\r\n", 0}, {"lines\nlines\r\n", 1}, {"lines\n\r", 1}, {"lines\n\r\n", 1}, {"lines\rlines\n", 0}, {"lines\vlines\n", 0}, {"lines\u2028lines\n", 0}, {"lines\u0085", 0}, {"lines\n\x00", 1}, {"\x00lines\n", 0}, {"lines\x00\n", 0}, {"lines\n\xff\n", 1},
		{"lines lines\n", 0}, {"lines\nbids 1\n", 1}, {"stage 1 10 2\nlines\n", 0}, {"station 1 10 2\nopen 10 4 100 5 2\nask one\nbid\n", 2}, {"lines\n\tlines\n", 1},
	} {
		wantDeskFault(t, fmt.Sprintf("%q", c.text), c.text, c.line)
	}
	// In the midst of a whole auction, one or two of them, at each place.
	lines := append(twoLines("stage", "round 2", "close 54", "ask 1 2", "round"), "close 5", "pays", "lines")
	for _, wrong := range []string{"", "x", " lines", "ask ", "ask 01", "Bids", "pays 1", "round 02", "\xff", "close -5", "open 10 4 100 5"} {
		for at := range len(lines) + 1 {
			text := deskText(slices.Insert(slices.Clone(lines), at, wrong)...)
			wantDeskFault(t, fmt.Sprintf("%q ahead of line %d", wrong, at), text, at)
			if at < len(lines) || wrong != "" {
				wantDeskFault(t, fmt.Sprintf("%q ahead of line %d, broken off", wrong, at), text[:len(text)-1], at)
			}
			for _, two := range []int{at + 1, len(lines) + 1} {
				text := deskText(slices.Insert(slices.Insert(slices.Clone(lines), at, wrong), two, "x")...)
				wantDeskFault(t, fmt.Sprintf("%q ahead of line %d and x", wrong, at), text, at)
			}
		}
	}
}

// A text that ends at any byte: of whole lines it is taken, else its last line is the fault.
func TestDeskBreaksOffAtEachByte(t *testing.T) {
	text := deskText(twoLines("stage", "ask 1 2", "round 2", "close 54", "round", "close 5", "pays", "lines")...)
	for size := range len(text) {
		cut, line := text[:size], strings.Count(text[:size], "\n")
		if size > 0 && !strings.HasSuffix(cut, "\n") {
			wantDeskFault(t, fmt.Sprintf("%q", cut), cut, line)
			continue
		}
		wantTyped(t, fmt.Sprintf("%q", cut), cut, deskByHand(cut).Text)
		if !strings.HasPrefix(impl.DeskRun(text).Text, impl.DeskRun(cut).Text) {
			t.Errorf("%q: does not tell the beginning of what all tell", cut)
		}
	}
}

// One byte other, more or less, anywhere.
func TestDeskWithOneByteOther(t *testing.T) {
	t.Parallel()
	text := deskText(twoLines("stage", "ask 1 2", "round 2", "plan", "close 55", "lines")...)
	codes := map[int64]int{}
	for at := range len(text) {
		for _, sign := range []string{"", " ", "\n", "\r", "\t", "0", "1", "9", "-", "s", "a", "\x00", "\x7f", "\x80", "\xff", "é"} {
			for _, other := range []string{text[:at] + sign + text[at+1:], text[:at] + sign + text[at:]} {
				want := deskByHand(other)
				wantDesk(t, fmt.Sprintf("%q", other), other, want)
				codes[want.Code]++
			}
		}
	}
	if codes[impl.OK] < 300 || codes[impl.ErrSyntax] < 2000 {
		t.Errorf("the codes are all of one kind: %v", codes)
	}
}

// oddDeskLines: lines that are taken, or not.
func oddDeskLines() []string {
	return []string{"", " ", "x", "lines ", "ask 01", "bids 1", "pays\r", "\xff\x00", "station", "STAGE", "ask 10000000000000", "round  1"}
}

func TestDeskByHand(t *testing.T) {
	t.Parallel()
	random := rand.New(rand.NewSource(181))
	codes, faults := map[int64]int{}, map[int64]int{}
	for i := range 300 {
		lines := typedAuction(random, i, 10+random.Intn(60))
		for range random.Intn(90) {
			at := random.Intn(len(lines) + 1)
			lines = slices.Insert(lines, at, ownLine(random, ownWords()[random.Intn(6)], nil))
		}
		for range max(random.Intn(4)-1, 0) {
			lines = slices.Insert(lines, random.Intn(len(lines)+1), oddDeskLines()[random.Intn(12)])
		}
		text := deskText(lines...)
		if random.Intn(6) == 0 {
			text = text[:random.Intn(len(text)+1)]
		}
		want := deskByHand(text)
		wantDesk(t, fmt.Sprintf("%q", text), text, want)
		codes[want.Code]++
		faults[min(want.Line, impl.MaxDesk)/10]++
	}
	if codes[impl.OK] < 80 || codes[impl.ErrSyntax] < 80 || faults[10] < 5 || faults[1] < 10 {
		t.Errorf("the texts are all of one kind: %v, %v", codes, faults)
	}
}

// A text of just MaxBytes bytes has a wrong line, as MaxDesk right ones have fewer; of one byte more its size is the fault, whatever it is.
func TestDeskOfTheSizeOfAText(t *testing.T) {
	size := impl.DeskOut{Code: impl.ErrSize}
	for _, c := range []struct {
		what string
		text string
		line int
	}{
		{"lines", strings.Repeat("lines\n", 3333) + "x\n", impl.MaxDesk},
		{"lines, broken off", strings.Repeat("lines\n", 3333) + "li", impl.MaxDesk},
		{"one line", "ask" + strings.Repeat(" 1", 9998) + "\n", 0},
		{"one line, broken off", "ask " + strings.Repeat("10 ", 6665) + "1", 0},
		{"one word", strings.Repeat("x", allBytes), 0},
		{"a line and a long one", "lines\n" + strings.Repeat("x", allBytes-6), 1},
		{"line feeds", strings.Repeat("\n", allBytes), 0},
		{"blanks", strings.Repeat(" ", allBytes-1) + "\n", 0},
		{"any bytes", filled(allBytes), 0},
		{"MaxDesk of many bytes", strings.Repeat("ask"+strings.Repeat(" 1", 98)+"\n", impl.MaxDesk), 0},
		{"right ones and a long one", strings.Repeat("lines\n", 99) + strings.Repeat("0", allBytes-594), 99},
	} {
		if len(c.text) != allBytes {
			t.Fatalf("%s: %d bytes", c.what, len(c.text))
		}
		wantDeskFault(t, c.what, c.text, c.line)
		for _, more := range []string{"\n", "x", " ", "\x00", "lines\n", c.text, c.text + c.text} {
			wantDesk(t, c.what+", more bytes", c.text+more, size)
			wantDesk(t, c.what+", more bytes ahead", more+c.text, size)
		}
		if !strings.HasSuffix(c.what, "long one") {
			wantDeskFault(t, c.what+", one byte fewer", c.text[:allBytes-1], c.line)
		}
	}
}

// What is asked: yes, no and unknown by the top and the budget of the clock, and what AskAll refuses.
func TestDeskAsks(t *testing.T) {
	type asked struct{ line, told string }
	ahead := func(budget int, more ...string) []string {
		return append(append(tableLines(fourStations()), fmt.Sprintf("open 10 4 %d 5 4 51", budget)), more...)
	}
	refused := []asked{}
	for _, line := range []string{"ask 0", "ask 0 3", "ask 1", "ask 3 4", "ask 22", "ask 999", "ask 1000", "ask 999999999999", "ask 1000000000000", "ask 3 1000000000000", "ask 1000000000000 3", "ask 8 3", "ask 3 3", "ask 3 8 8", "ask 3 8 20 21 21", "ask 21 20 8 3", "ask 3 20 8", "ask 3 8 20 21 22",
		"ask 38", "ask 3 8 2021", "ask 1 2 3 4 5 6 7 8 9 10 11 12 13 14 15 16 17 18 19 20 21", "ask" + strings.Repeat(" 3", 28)} {
		refused = append(refused, asked{line, "error 1\n"})
	}
	for _, c := range []struct {
		what  string
		ahead []string
		asked []asked
	}{
		{"at the first top", ahead(100), []asked{{"ask", "yes 1\n"}, {"ask 3", "yes 1\n3 4\n"}, {"ask 8", "yes 2\n8 3\n"}, {"ask 3 8", "yes 1\n3 4\n8 3\n"}, {"ask 21", "no 1\n0\n"}, {"ask 3 8 20 21", "no 1\n0\n"}, {"ask 3 20", "no 1\n0\n"}}},
		{"at the second top", ahead(100, "round", "close 0"), []asked{{"ask", "yes 1\n"}, {"ask 21", "yes 2\n21 6\n"}, {"ask 3 8 20 21", "yes 5\n3 4\n8 3\n20 6\n21 6\n"}}},
		{"within one step", ahead(1), []asked{{"ask", "yes 1\n"}, {"ask 3", "yes 1\n3 4\n"}, {"ask 8", "unknown 1\n"}, {"ask 21", "no 1\n0\n"}, {"ask 3 8", "yes 1\n3 4\n8 3\n"}}},
		{"within two steps, at the second top", ahead(2, "round", "close 0"), []asked{{"ask 21", "yes 2\n21 6\n"}, {"ask 3 8 20 21", "unknown 2\n"}}},
		{"closed", ahead(100, "round", "close 1000"), []asked{{"ask 3", "yes 1\n3 4\n"}, {"ask 21", "no 1\n0\n"}}},
		{"failed", ahead(100, "round", "close 0", "round", "close 0"), []asked{{"ask 21", "yes 2\n21 6\n"}, {"ask 3 8 20 21", "yes 5\n3 4\n8 3\n20 6\n21 6\n"}}},
		{"a proof of some steps", append(tableLines(crowdOn(4, 3)), "open 10 4 100 5 51"), []asked{{"ask 1 2 3 4", "no 11\n-1 -5 0\n-1 0\n-2 -4 0\n-2 0\n-4 0\n0\n"}}},
		{"such a proof, a step too few", append(tableLines(crowdOn(4, 3)), "open 10 4 10 5 51"), []asked{{"ask 1 2 3 4", "unknown 10\n"}}},
	} {
		if !impl.EngineEnd(c.ahead).Opened {
			t.Fatalf("%s: is not opened", c.what)
		}
		told := impl.DeskRun(deskText(c.ahead...)).Text
		all := c.asked
		if impl.EngineEnd(c.ahead).Table.Stations[0].Id == 3 {
			all = append(all, refused...)
		}
		for _, a := range all {
			what := c.what + ": " + a.line
			wantTyped(t, what, deskText(append(slices.Clone(c.ahead), a.line)...), told+a.told)
			// To ask changes nothing, and it may be asked again.
			wantTyped(t, what+", again", deskText(append(slices.Clone(c.ahead), "lines", a.line, a.line, "lines", "stage")...),
				told+ownToldBy("lines", c.ahead)+a.told+a.told+ownToldBy("lines", c.ahead)+ownToldBy("stage", c.ahead))
		}
	}
	// Ahead of the opening the state is the fault, whatever the Ids are.
	for _, line := range append([]asked{{"ask", ""}, {"ask 3", ""}, {"ask 3 8 20 21", ""}}, refused...) {
		wantTyped(t, line.line+", not opened", line.line+"\n", "error 8\n")
		wantTyped(t, line.line+", not opened yet", deskText(append(tableLines(fourStations()), "must 3", line.line)...), strings.Repeat("ok\n", 7)+"error 8\n")
	}
}

// What `lines` tells behind lines that are refused, that only ask, and that change.
func TestDeskCountsWhatChanged(t *testing.T) {
	told := map[string]string{
		"must 9": "error 8\n", "same 1 2": "error 8\n", "needs": "needs 55\n", "bid 9": "error 7\n", "bid 2": "state 1 price 50\n", "total": "total 50\n", "channel 1": "channel 2\n",
		"close 5": "error 8\n", "round 1 1": "error 1\n", "open 10 4 100 5 2 4": "error 8\n", "station 1 10 2": "error 8\n", "lines": "5\n", "ask 9": "error 1\n", "ask 1": "yes 1\n1 2\n", "pays": "", "plan": "1 2\n",
		"bids": "1 out 0.00\n2 active 0.50\n", "stage": "stage 0\ntop 2\n1 out 0.00\n2 active 0.50\n1 2\n",
	}
	ahead := "ok\nok\nok\nok\nactive 1\n"
	for line, told := range told {
		wantTyped(t, line, deskText(twoLines("lines", line, "lines")...), ahead+"5\n"+told+"5\n")
		wantTyped(t, line+", often", deskText(twoLines(append(slices.Repeat([]string{line}, 30), "lines", "round 2", "lines")...)...), ahead+strings.Repeat(told, 30)+"5\nactive 0 price 6\n6\n")
	}
	wantExchanges(t, "ahead of the opening", []exchange{
		{"lines", "0\n"}, {"needs", "error 8\n"}, {"lines", "0\n"}, {"must 1", "error 7\n"}, {"open 10 4 100 5 2", "error 7\n"}, {"lines", "0\n"}, {"same 1 2", "error 1\n"}, {"lines", "0\n"},
		{"station 1 10 2 3", "ok\n"}, {"lines", "1\n"}, {"station 1 10 2 3", "error 1\n"}, {"lines", "1\n"}, {"station 2 5 2 4", "ok\n"}, {"lines", "2\n"}, {"beside 1 2", "ok\n"}, {"lines", "3\n"}, {"same 1 2", "error 1\n"}, {"beside 2 1", "error 1\n"}, {"lines", "3\n"},
		{"must 1", "ok\n"}, {"must 1", "error 1\n"}, {"lines", "4\n"}, {"open 10 4 0 5 2 4", "error 9\n"}, {"open 10 4 301 5 2 4", "error 1\n"}, {"lines", "4\n"}, {"open 10 4 100 5 2 4", "active 1\n"}, {"lines", "5\n"}, {"open 10 4 100 5 2 4", "error 8\n"}, {"lines", "5\n"},
		{"round 3", "error 1\n"}, {"lines", "5\n"}, {"round", "active 0 price 6\n"}, {"lines", "6\n"}, {"round", "error 8\n"}, {"close 54", "stage 1 active 1\n"}, {"lines", "7\n"}, {"round 2", "active 1 price 2\n"}, {"lines", "8\n"}, {"round 2", "active 0 price 0\n"}, {"lines", "9\n"},
		{"close 1000000000000", "closed 5\n"}, {"lines", "10\n"}, {"close 5", "error 8\n"}, {"lines", "10\n"}, {"total", "total 0\n"}, {"lines", "10\n"},
	})
	// As many as may be.
	long := longLog(impl.MaxDesk - 1)
	wantTyped(t, "99 that change", deskText(append(long, "lines")...), deskText(append(impl.EngineRun(long), "99")...))
}

// The words in their order, and that lines begin with these and no others.
func TestDeskWords(t *testing.T) {
	words := []string{"ask", "beside", "bid", "bids", "channel", "close", "lines", "must", "needs", "open", "pays", "plan", "round", "same", "stage", "station", "total"}
	wantReplies(t, "the words", impl.DeskWords(), words)
	for at := range len(words) - 1 {
		if impl.DeskWords()[at] >= impl.DeskWords()[at+1] {
			t.Errorf("the words are not rising at %d: %q", at, impl.DeskWords())
		}
	}
	for _, word := range words {
		for _, other := range []string{word, word[:len(word)-1], word[1:], word + "s", word + "e", strings.ToUpper(word), word + word, " " + word, word + "\t", "", "help", "ok", "error", "p", "log", "report"} {
			taken := false
			for count := range 8 {
				taken = taken || impl.DeskFault(other+strings.Repeat(" 7", count)+"\n").Code == impl.OK
			}
			if taken != slices.Contains(words, other) {
				t.Errorf("%q: a line that begins so is taken: %v", other, taken)
			}
		}
	}
	for range 3 {
		spoil(impl.DeskWords())
		wantReplies(t, "again", impl.DeskWords(), words)
	}
	first, second := impl.DeskWords(), impl.DeskWords()
	spoil(first)
	wantReplies(t, "apart", second, words)
}

// The most that a table may have, typed at a desk, with what may be asked of it.
func TestDeskOfTheMostThereIs(t *testing.T) {
	t.Parallel()
	lines := append(tableLines(longestTable()), "open 1000000 400000 300 1000000000000 46 47 48 49 50 51")
	for _, more := range [][]string{
		{"ask 988 989 990 991 992 993 994 995 996 997 998 999"},
		{"round 988 989 990 991 992 993 994 995 996 997 998 999", "stage"},
		{"round", "plan", "ask 988 989 990 991", "close 0", "bids", "ask 988 989 990 991 992 993 994 995 996 997 998 999"},
	} {
		text := slices.Clone(lines)
		for len(text) < impl.MaxDesk {
			text = append(text, more[len(text)%len(more)])
		}
		got := impl.DeskRun(deskText(text...))
		wantDeskOut(t, "the most", got, impl.DeskOut{Text: toldBy(text)[impl.MaxDesk]})
		if got.Code != impl.OK || !strings.HasPrefix(got.Text, strings.Repeat("ok\n", 52)+"active 12\n") {
			t.Errorf("the most tells %.400q", got.Text)
		}
	}
	// Answers of many lemmas, more of them than a text that is handed in may have bytes.
	hard := append(tableLines(longNo()), "open 10 4 300 5 51")
	asked := impl.AskText(impl.AskAll(longNo(), 51, channels(1, 7), 300))
	told := deskText(impl.EngineRun(hard)...) + strings.Repeat(asked, impl.MaxDesk-len(hard))
	for len(hard) < impl.MaxDesk {
		hard = append(hard, "ask 1 2 3 4 5 6 7")
	}
	wantDeskOut(t, "many lemmas", impl.DeskRun(deskText(hard...)), impl.DeskOut{Text: told})
	if len(told) < 3*impl.MaxBytes || !strings.HasPrefix(asked, "no 299\n") {
		t.Errorf("many lemmas are told in %d bytes, %.20q", len(told), asked)
	}
}

// A text is only looked at, and may change behind an answer, which stays as it is.
func TestDeskChangesAndSharesNothing(t *testing.T) {
	random := rand.New(rand.NewSource(182))
	for i := range 120 {
		lines := typedAuction(random, i, 40)
		for range 20 {
			at := random.Intn(len(lines) + 1)
			lines = slices.Insert(lines, at, ownLine(random, ownWords()[random.Intn(6)], lines[:at]))
		}
		if i%5 == 0 {
			lines = slices.Insert(lines, random.Intn(len(lines)), "x")
		}
		bytes := []byte(deskText(lines...))
		before := string(bytes)
		given := unsafe.String(unsafe.SliceData(bytes), len(bytes))
		run, fault := impl.DeskRun(given), impl.DeskFault(given)
		if string(bytes) != before {
			t.Fatalf("%q: the text is changed", before)
		}
		kept := impl.DeskOut{Text: strings.Clone(run.Text), Line: run.Line, Code: run.Code}
		for at := range bytes {
			bytes[at] = '#'
		}
		wantDeskOut(t, "behind what is changed", run, kept)
		wantDeskOut(t, "behind what is changed", fault, impl.DeskOut{Line: kept.Line, Code: kept.Code})
		wantDeskOut(t, "again", impl.DeskRun(before), kept)
	}
}

func TestDeskKeepsNothing(t *testing.T) {
	random := rand.New(rand.NewSource(183))
	text := deskText(twoLines("stage", "round 2", "close 54", "ask 1 2", "lines")...)
	want := impl.DeskRun(text)
	for i := range 60 {
		impl.DeskRun(deskText(typedAuction(random, i, 20)...))
		impl.DeskRun(deskText(append(twoLines(), "x")...))
		impl.DeskRun("station 9 9 9\n")
		impl.DeskFault(text)
		impl.DeskWords()
		wantDeskOut(t, "again", impl.DeskRun(text), want)
		wantTyped(t, "again", "lines\nbids\n", "0\nerror 8\n")
	}
}

// A call in each of some goroutines at the same time answers what it answers alone, and none is left behind.
func TestDeskAtTheSameTime(t *testing.T) {
	text := deskText(twoLines("stage", "round 2", "close 54", "ask 1 2", "lines", "round", "close 5", "pays")...)
	want := impl.DeskRun(text)
	before := runtime.NumGoroutine()
	told := make(chan impl.DeskOut)
	for range 20 {
		go func() { told <- impl.DeskRun(text) }()
	}
	for range 20 {
		wantDeskOut(t, "at the same time", <-told, want)
	}
	for range 100 {
		impl.DeskRun(text)
		impl.DeskRun(text + "x\n")
		impl.DeskRun("")
	}
	if left := goroutinesBut(before); left > before {
		t.Errorf("%d goroutines are left, there were %d", left, before)
	}
}
