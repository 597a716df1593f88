package tests

import (
	"fmt"
	"math"
	"math/rand"
	"regexp"
	"slices"
	"strconv"
	"strings"
	"testing"

	"loop.example/g00144/impl"
)

// lineForm: the rows of the document's table, but for how great a number may be.
var lineForm = regexp.MustCompile(strings.ReplaceAll(
	`^(station( N){3,}|(same|beside) N N|must N|open( N){5,}|round( N)*|close N|needs|total|bid N|channel N)$`, "N", "(0|[1-9][0-9]*)"))

// lineByHand: the word and the numbers of a line, if it is one.
func lineByHand(line string) (string, []int64, bool) {
	return partsByHand(line, lineForm)
}

// partsByHand: the word and the numbers of a line of that form, if it is one.
func partsByHand(line string, form *regexp.Regexp) (string, []int64, bool) {
	if len(line) > 60 || !form.MatchString(line) {
		return "", nil, false
	}
	words := strings.Split(line, " ")
	numbers := []int64(nil)
	for _, word := range words[1:] {
		n, err := strconv.ParseInt(word, 10, 64)
		if err != nil || n > 1000000000000 {
			return "", nil, false
		}
		numbers = append(numbers, n)
	}
	return words[0], numbers, true
}

// engineRightByHand: what EngineRight is to tell.
func engineRightByHand(e impl.Engine) bool {
	if len(e.Table.Stations)+len(e.Table.Pairs) > 0 && !rightByHand(e.Table) {
		return false
	}
	own := idsByHand(e.Table)
	for i, id := range e.Must {
		if !slices.Contains(own, id) || i > 0 && e.Must[i-1] >= id {
			return false
		}
	}
	if !e.Opened {
		return stagesAlike(e.Stage, impl.Stage{})
	}
	return stageRightByHand(e.Stage) && tablesAlike(e.Stage.Clock.Table, e.Table)
}

// engineCodeByHand: the code that comes ahead of what a line does.
func engineCodeByHand(e impl.Engine, line string) int64 {
	word, _, ok := lineByHand(line)
	early := slices.Contains([]string{"station", "same", "beside", "must", "open"}, word)
	switch {
	case len(line) > 20000:
		return impl.ErrSize
	case !engineRightByHand(e):
		return impl.ErrForm
	case !ok:
		return impl.ErrSyntax
	case early == e.Opened:
		return impl.ErrState
	}
	return impl.OK
}

// engineDoByHand: what EngineDo is to tell.
func engineDoByHand(e impl.Engine, line string) impl.EngineOut {
	if code := engineCodeByHand(e, line); code != impl.OK {
		return refusedEngine(code)
	}
	word, n, _ := lineByHand(line)
	if !e.Opened {
		return setUpByHand(keptEngine(e), word, n)
	}
	return ledOnByHand(keptEngine(e), word, n)
}

// setUpByHand: a line ahead of the opening, and the opening.
func setUpByHand(e impl.Engine, word string, n []int64) impl.EngineOut {
	known := slices.Contains(idsByHand(e.Table), n[0])
	switch {
	case word == "station" && len(e.Table.Pairs) > 0:
		return refusedEngine(impl.ErrForm)
	case word == "station":
		e.Table.Stations = append(e.Table.Stations, impl.Station{Id: n[0], Score: n[1], Domain: n[2:]})
	case word == "same":
		e.Table.Pairs = append(e.Table.Pairs, impl.Pair{A: n[0], B: n[1], Kind: 1})
	case word == "beside":
		e.Table.Pairs = append(e.Table.Pairs, impl.Pair{A: n[0], B: n[1], Kind: 2})
	case word == "must" && !known:
		return refusedEngine(impl.ErrNone)
	case word == "must" && slices.Contains(e.Must, n[0]):
		return refusedEngine(impl.ErrForm)
	case word == "must":
		e.Must = append(e.Must, n[0])
		slices.Sort(e.Must)
	case len(e.Table.Stations) == 0:
		return refusedEngine(impl.ErrNone)
	default:
		out := stageOpenByHand(e.Table, n[4:], n[0], n[1], n[2], e.Must, n[3])
		if out.Code != impl.OK {
			return refusedEngine(out.Code)
		}
		e.Opened, e.Stage = true, out.Stage
		return did(e, fmt.Sprint("active ", len(activeByHand(e.Stage.Clock))))
	}
	if !rightByHand(e.Table) {
		return refusedEngine(impl.ErrForm)
	}
	return did(e, "ok")
}

// ledOnByHand: a line behind the opening.
func ledOnByHand(e impl.Engine, word string, n []int64) impl.EngineOut {
	next := impl.StageOut{Stage: e.Stage}
	if word == "round" {
		next = stageRoundByHand(e.Stage, n)
	}
	if word == "close" {
		next = closeByHand(e.Stage, n[0])
	}
	e.Stage = next.Stage
	active := len(activeByHand(e.Stage.Clock))
	if (word == "bid" || word == "channel") && !slices.Contains(idsByHand(e.Table), n[0]) {
		next.Code = impl.ErrNone
	}
	switch {
	case next.Code != impl.OK:
		return refusedEngine(next.Code)
	case word == "round":
		return did(e, fmt.Sprint("active ", active, " price ", e.Stage.Clock.Price))
	case word == "close" && e.Stage.Closed:
		return did(e, fmt.Sprint("closed ", needsByHand(e.Stage)))
	case word == "close" && e.Stage.Failed:
		return did(e, "failed")
	case word == "close":
		return did(e, fmt.Sprint("stage ", e.Stage.At, " active ", active))
	case word == "needs":
		return only(e, fmt.Sprint("needs ", needsByHand(e.Stage)))
	case word == "total":
		return only(e, fmt.Sprint("total ", totalByHand(e.Stage.Clock)))
	case word == "channel":
		at := slices.IndexFunc(e.Stage.Clock.Plan, func(p impl.Place) bool { return p.Id == n[0] })
		if at < 0 {
			return only(e, "channel 0")
		}
		return only(e, fmt.Sprint("channel ", e.Stage.Clock.Plan[at].Channel))
	}
	at := slices.IndexFunc(e.Stage.Clock.Bids, func(b impl.Bid) bool { return b.Id == n[0] })
	return only(e, fmt.Sprint("state ", e.Stage.Clock.Bids[at].State, " price ", e.Stage.Clock.Bids[at].Price))
}

// runLinesBy: lines one by one, by a function for one line: what they tell, and where they lead to.
func runLinesBy(lines []string, do func(impl.Engine, string) impl.EngineOut) ([]string, impl.Engine) {
	e, told := impl.Engine{}, []string(nil)
	for _, line := range lines {
		out := do(e, line)
		if out.Code == impl.OK {
			e = out.Engine
			told = append(told, out.Reply)
		} else {
			told = append(told, fmt.Sprint("error ", out.Code))
		}
	}
	return told, e
}

// did: what is told of a line that changes the engine.
func did(e impl.Engine, reply string) impl.EngineOut {
	return impl.EngineOut{Engine: e, Reply: reply, Changed: true}
}

// only: what is told of a line that only asks.
func only(e impl.Engine, reply string) impl.EngineOut {
	return impl.EngineOut{Engine: e, Reply: reply}
}

func refusedEngine(code int64) impl.EngineOut {
	return impl.EngineOut{Code: code}
}

// keptEngine: a copy that shares no memory.
func keptEngine(e impl.Engine) impl.Engine {
	e.Table, e.Must, e.Stage = tableKept(e.Table), slices.Clone(e.Must), keptStage(e.Stage)
	return e
}

func keptEngineOut(out impl.EngineOut) impl.EngineOut {
	out.Engine = keptEngine(out.Engine)
	return out
}

func enginesAlike(a impl.Engine, b impl.Engine) bool {
	return tablesAlike(a.Table, b.Table) && slices.Equal(a.Must, b.Must) && a.Opened == b.Opened && stagesAlike(a.Stage, b.Stage)
}

// wantEngineOut holds all that is told; an empty list and none are the same.
func wantEngineOut(t *testing.T, what string, got impl.EngineOut, want impl.EngineOut) {
	t.Helper()
	if !enginesAlike(got.Engine, want.Engine) || got.Reply != want.Reply || got.Changed != want.Changed || got.Code != want.Code {
		t.Errorf("%.900s: got %+v, want %+v", what, got, want)
	}
}

func wantEngine(t *testing.T, what string, got impl.Engine, want impl.Engine) {
	t.Helper()
	if !enginesAlike(got, want) {
		t.Errorf("%.900s: got %+v, want %+v", what, got, want)
	}
}

// wantDo: what a line does, that by hand it is the same, and that the engine behind it is right.
func wantDo(t *testing.T, what string, e impl.Engine, line string, want impl.EngineOut) {
	t.Helper()
	what = fmt.Sprintf("%s: %.80q", what, line)
	wantEngineOut(t, what, impl.EngineDo(e, line), want)
	wantEngineOut(t, what+", by hand", engineDoByHand(e, line), want)
	if want.Code == impl.OK && !impl.EngineRight(want.Engine) {
		t.Errorf("%s: what comes of it is told not to be right", what)
	}
	if got, _, ok := lineByHand(line); impl.LineRight(line) != ok {
		t.Errorf("%s: is told to be right: %v (%s)", what, !ok, got)
	}
}

func wantReplies(t *testing.T, what string, got []string, want []string) {
	t.Helper()
	if !slices.Equal(got, want) {
		t.Errorf("%.900s: got %q, want %q", what, got, want)
	}
}

// typed: a line of a word and numbers.
func typed(word string, numbers ...int64) string {
	for _, n := range numbers {
		word += fmt.Sprint(" ", n)
	}
	return word
}

// tableLines: the lines with which a table is typed.
func tableLines(table impl.Table) []string {
	return strings.Split(strings.TrimSuffix(tableTextByHand(table), "\n"), "\n")
}

// fourEngine: the table of fourStations, 3 must stay; it is not opened.
func fourEngine() impl.Engine {
	return impl.Engine{Table: fourStations(), Must: []int64{3}}
}

// withEngine: fourEngine, but changed.
func withEngine(change func(e *impl.Engine)) impl.Engine {
	e := fourEngine()
	change(&e)
	return e
}

// openedOn: fourEngine, opened, with that stage.
func openedOn(s impl.Stage) impl.Engine {
	return withEngine(func(e *impl.Engine) { e.Opened, e.Stage = true, s })
}

// ofTable: an engine with a table alone.
func ofTable(table impl.Table, must ...int64) impl.Engine {
	return impl.Engine{Table: table, Must: must}
}

// twoLines: two stations of which 1 must stay; on channel 2 there is no room for 2 beside it, on 4 there is.
func twoLines(more ...string) []string {
	return append([]string{"station 1 10 2 3", "station 2 5 2 4", "same 1 2", "must 1", "open 10 4 100 5 2 4"}, more...)
}

func TestEngineOfWholeAuctions(t *testing.T) {
	table := impl.Table{
		Stations: []impl.Station{{Id: 1, Score: 10, Domain: []int64{2, 3}}, {Id: 2, Score: 5, Domain: []int64{2, 4}}},
		Pairs:    []impl.Pair{{A: 1, B: 2, Kind: impl.PairSame}},
	}
	end := func(at int64, price int64, bid impl.Bid, plan []impl.Place, closed bool) impl.Engine {
		tops := []int64{2, 4}
		c := impl.Clock{Table: table, Top: tops[at], Price: price, Step: 4, Budget: 100, Bids: []impl.Bid{{Id: 1, State: impl.BidOut}, bid}, Plan: plan}
		return impl.Engine{Table: table, Must: []int64{1}, Opened: true, Stage: impl.Stage{Clock: c, Tops: tops, At: at, Fixed: 5, Closed: closed, Failed: !closed}}
	}
	set := []string{"ok", "ok", "ok", "ok", "active 1"}
	for _, c := range []struct {
		what  string
		lines []string
		want  []string
		end   impl.Engine
	}{
		{"closed at its first top",
			twoLines("bid 1", "bid 2", "channel 1", "channel 2", "needs", "total", "round 2", "bid 2", "close 55", "bid 2", "needs", "total", "channel 2", "close 55", "round"),
			append(slices.Clone(set), "state 3 price 0", "state 1 price 50", "channel 2", "channel 0", "needs 55", "total 50", "active 0 price 6", "state 2 price 50", "closed 55", "state 4 price 50", "needs 55", "total 50", "channel 0", "error 8", "error 8"),
			end(0, 6, impl.Bid{Id: 2, State: impl.BidWon, Price: 50}, placesOf(1, 2), true)},
		{"closed at its second top",
			twoLines("round 2", "close 54", "bid 2", "total", "round 2", "bid 2", "needs", "round", "bid 2", "channel 2", "close 5", "needs"),
			append(slices.Clone(set), "active 0 price 6", "stage 1 active 1", "state 1 price 50", "total 50", "active 1 price 2", "state 1 price 10", "needs 15", "active 0 price 0", "state 3 price 0", "channel 4", "closed 5", "needs 5"),
			end(1, 0, impl.Bid{Id: 2, State: impl.BidOut}, placesOf(1, 2, 2, 4), true)},
		{"failed at its last top",
			twoLines("round", "close 54", "close 54", "round", "close 4", "round", "close 1000", "bid 2", "channel 2", "needs", "open 10 4 100 5 2 4", "station 3 1 2", "must 2"),
			append(slices.Clone(set), "active 0 price 6", "stage 1 active 1", "error 8", "active 0 price 2", "failed", "error 8", "error 8", "state 3 price 0", "channel 4", "needs 5", "error 8", "error 8", "error 8"),
			end(1, 2, impl.Bid{Id: 2, State: impl.BidOut}, placesOf(1, 2, 2, 4), false)},
	} {
		wantReplies(t, c.what, impl.EngineRun(c.lines), c.want)
		wantEngine(t, c.what, impl.EngineEnd(c.lines), c.end)
		byHand, behind := runLinesBy(c.lines, engineDoByHand)
		wantReplies(t, c.what+", by hand", byHand, c.want)
		wantEngine(t, c.what+", by hand", behind, c.end)
	}
}

// wantLineRight: if it is a line, alone, by hand, and for an engine that is opened and for one that is not.
func wantLineRight(t *testing.T, line string, want bool) {
	t.Helper()
	_, _, byHand := lineByHand(line)
	if got := impl.LineRight(line); got != want || byHand != want {
		t.Errorf("%.100q: is told to be right: %v, by hand %v", line, got, byHand)
	}
	for _, e := range []impl.Engine{{}, fourEngine(), openedOn(fourStage())} {
		out := impl.EngineDo(e, line)
		if (out.Code != impl.ErrSyntax) != want {
			t.Errorf("%.100q: the code is %d", line, out.Code)
		}
		wantEngineOut(t, fmt.Sprintf("%.100q", line), out, engineDoByHand(e, line))
	}
}

func TestLineRightOfWords(t *testing.T) {
	right := []string{"station 1 2 3", "same 1 2", "beside 1 2", "must 1", "open 1 2 3 4 5", "round", "round 1", "close 1", "needs", "total", "bid 1", "channel 1"}
	for _, line := range right {
		word := strings.Split(line, " ")[0]
		numbers := strings.TrimPrefix(line, word)
		wantLineRight(t, line, true)
		for _, other := range []string{strings.ToUpper(word), strings.ToUpper(word[:1]) + word[1:], word[:len(word)-1] + strings.ToUpper(word[len(word)-1:]),
			word[:len(word)-1], word[1:], word + "s", word + "e", "x" + word, word + word, word + "\x00", word + ".", "", "-" + word, "0", "17", "ok", "error", "active"} {
			wantLineRight(t, other+numbers, false)
		}
		for _, blank := range []string{"  ", "\t", "\n", " \n", "\n ", " \t", "\r", "\v", "\u00a0", "\u2003", ",", ""} {
			if numbers != "" {
				wantLineRight(t, strings.Replace(line, " ", blank, 1), false)
				wantLineRight(t, word+numbers[:len(numbers)-2]+blank+numbers[len(numbers)-1:], false)
			}
			if blank != "" {
				wantLineRight(t, blank+line, false)
				wantLineRight(t, line+blank, false)
			}
		}
		for _, around := range []string{" ", "  "} {
			wantLineRight(t, around+line, false)
			wantLineRight(t, line+around, false)
		}
	}
	for _, line := range []string{"", " ", "  ", "\n", "\t", "\x00", "0", "bids", "plan", "pays", "stage", "lines", "ask 1", "station", "Station 1 2 3", "a station 1 2 3", "1 must", "must one", "close 1 close 1", "needs\nneeds", "needs total", "\xff", "needs\xff", "n\xc3\xa9eds"} {
		wantLineRight(t, line, false)
	}
}

func TestLineRightOfHowManyNumbers(t *testing.T) {
	for _, c := range []struct {
		word  string
		least int
		dots  bool
	}{
		{"station", 3, true}, {"same", 2, false}, {"beside", 2, false}, {"must", 1, false}, {"open", 5, true}, {"round", 0, true},
		{"close", 1, false}, {"needs", 0, false}, {"total", 0, false}, {"bid", 1, false}, {"channel", 1, false},
	} {
		for count := range 40 {
			line := c.word + strings.Repeat(" 7", count)
			wantLineRight(t, line, (count == c.least || c.dots && count > c.least) && len(line) <= 60)
		}
	}
}

func TestLineRightOfNumbers(t *testing.T) {
	rows := []string{"station N 5 6", "station 5 N 6", "station 5 6 N", "station 5 6 7 N", "same N 2", "same 2 N", "beside N 2", "beside 2 N", "must N",
		"open N 2 3 4 5", "open 1 N 3 4 5", "open 1 2 N 4 5", "open 1 2 3 N 5", "open 1 2 3 4 N", "open 1 2 3 4 5 N", "round N", "round 1 N", "close N", "bid N", "channel N"}
	for _, row := range rows {
		for _, n := range []string{"0", "1", "9", "10", "100", "999", "1000000", "9007199254", "99999999999", "999999999999", "1000000000000"} {
			wantLineRight(t, strings.Replace(row, "N", n, 1), true)
		}
		for _, n := range []string{"1000000000001", "2000000000000", "9999999999999", "10000000000000", "99999999999999", "18446744073709551616", "18446744073709551617", "9223372036854775808",
			"00", "01", "007", "0000000000001", "00000000000001", "-0", "-1", "+0", "+1", "--1", "1-", "1+", "-", "+", "", " ", "x", "1x", "x1", "1a0", "0x1", "1e3", "1.0", "1,0", "1_0", ".", "½", "١", "１", "1\n", "\n1", "1\t", "1\x00", "\x00", "\xff"} {
			wantLineRight(t, strings.Replace(row, "N", n, 1), false)
		}
	}
}

func TestLineRightOfItsLength(t *testing.T) {
	for _, c := range []struct {
		line string
		size int
	}{
		{"round 1000000000000 1000000000000 1000000000000 10000000000", 59},
		{"round 1000000000000 1000000000000 1000000000000 100000000000", 60},
		{"round 1000000000000 1000000000000 1000000000000 1000000000000", 61},
		{"round" + strings.Repeat(" 1", 27), 59},
		{"round 10" + strings.Repeat(" 1", 26), 60},
		{"round" + strings.Repeat(" 1", 28), 61},
		{"station 1 1" + strings.Repeat(" 7", 23) + " 51", 60},
		{"station 1 1" + strings.Repeat(" 7", 25), 61},
		{"open" + strings.Repeat(" 5", 28), 60},
		{"open 15" + strings.Repeat(" 5", 27), 61},
		{"round" + strings.Repeat(" 1", 9997), 19999},
		{"round 10" + strings.Repeat(" 1", 9996), impl.MaxBytes},
	} {
		if len(c.line) != c.size {
			t.Fatalf("%.70q has %d bytes", c.line, len(c.line))
		}
		wantLineRight(t, c.line, c.size <= impl.MaxLine)
	}
	wantLineRight(t, strings.Repeat("x", 60), false)
	wantLineRight(t, strings.Repeat(" ", 60), false)
}

// A text that is too long is refused ahead of all else, whatever the engine is.
func TestEngineOfTextsThatAreTooLong(t *testing.T) {
	size := refusedEngine(impl.ErrSize)
	for _, long := range []string{"round" + strings.Repeat(" 1", 9998), strings.Repeat(" ", impl.MaxBytes+1), strings.Repeat("needs", 9000), filled(3 * impl.MaxBytes)} {
		if impl.LineRight(long) {
			t.Errorf("%.20q of %d bytes is told to be right", long, len(long))
		}
		for _, e := range rightEngines() {
			wantEngineOut(t, "too long", impl.EngineDo(e, long), size)
		}
		for _, e := range wrongEngines() {
			wantEngineOut(t, "too long, a wrong engine", impl.EngineDo(e, long), size)
		}
		// In a list it is a line as any other, which changes nothing.
		wantReplies(t, "in a list", impl.EngineRun([]string{"station 5 10 2", long, "must 5", long}), []string{"ok", "error 2", "ok", "error 2"})
		wantEngine(t, "in a list", impl.EngineEnd([]string{"station 5 10 2", long, "must 5", long}), ofTable(oneStation(5, 10, 2), 5))
	}
	most := strings.Repeat("x", impl.MaxBytes)
	wantDo(t, "MaxBytes", impl.Engine{}, most, refusedEngine(impl.ErrSyntax))
	wantDo(t, "MaxBytes", openedOn(fourStage()), most, refusedEngine(impl.ErrSyntax))
	wantEngineOut(t, "MaxBytes, a wrong engine", impl.EngineDo(impl.Engine{Opened: true}, most), refusedEngine(impl.ErrForm))
}

// rightEngines: ordinary ones and those at the edges of what is right.
func rightEngines() map[string]impl.Engine {
	all := map[string]impl.Engine{
		"nothing": {},
		"empty lists": {Table: impl.Table{Stations: []impl.Station{}, Pairs: []impl.Pair{}}, Must: []int64{}, Stage: impl.Stage{
			Clock: impl.Clock{Table: impl.Table{Stations: []impl.Station{}, Pairs: []impl.Pair{}}, Bids: []impl.Bid{}, Plan: []impl.Place{}}, Tops: []int64{}}},
		"ordinary":              fourEngine(),
		"nobody must":           withEngine(func(e *impl.Engine) { e.Must = nil }),
		"nobody must, no lists": withEngine(func(e *impl.Engine) { e.Must, e.Stage.Tops, e.Stage.Clock.Bids = []int64{}, []int64{}, []impl.Bid{} }),
		"the last must":         withEngine(func(e *impl.Engine) { e.Must = []int64{21} }),
		"all must":              withEngine(func(e *impl.Engine) { e.Must = []int64{3, 8, 20, 21} }),
		"of no Pair":            withEngine(func(e *impl.Engine) { e.Table.Pairs = nil }),
		// No sentence holds Must against the Bids of the stage.
		"opened, others must": withEngine(func(e *impl.Engine) { *e = openedOn(fourStage()); e.Must = []int64{8, 21} }),
		"opened, nobody must": withEngine(func(e *impl.Engine) { *e = openedOn(fourStage()); e.Must = nil }),
	}
	for what, s := range rightStages() {
		all["opened: "+what] = openedOn(s)
	}
	return all
}

// otherTables: right tables that are not fourStations, each by one thing alone.
func otherTables() map[string]impl.Table {
	other := func(change func(table *impl.Table)) impl.Table {
		table := fourStations()
		change(&table)
		return table
	}
	return map[string]impl.Table{
		"another Score":   other(func(table *impl.Table) { table.Stations[3].Score = 5 }),
		"another Id":      other(func(table *impl.Table) { table.Stations[3].Id = 22 }),
		"another channel": other(func(table *impl.Table) { table.Stations[3].Domain[1] = 50 }),
		"a channel more":  other(func(table *impl.Table) { table.Stations[3].Domain = []int64{6, 50, 51} }),
		"a channel less":  other(func(table *impl.Table) { table.Stations[3].Domain = []int64{6} }),
		"a Station more": other(func(table *impl.Table) {
			table.Stations = append(table.Stations, impl.Station{Id: 30, Score: 1, Domain: []int64{2}})
		}),
		"a Station less": other(func(table *impl.Table) { table.Stations = table.Stations[:3] }),
		"another Kind":   other(func(table *impl.Table) { table.Pairs[1].Kind = impl.PairSame }),
		"another Pair":   other(func(table *impl.Table) { table.Pairs[1].B = 21 }),
		"a Pair more":    other(func(table *impl.Table) { table.Pairs = append(table.Pairs, impl.Pair{A: 20, B: 21, Kind: 1}) }),
		"a Pair less":    other(func(table *impl.Table) { table.Pairs = table.Pairs[:1] }),
		"no Pair":        other(func(table *impl.Table) { table.Pairs = nil }),
		"one of its own": threeStations(),
	}
}

// notYetOpened: stages that are not the zero one, by one thing alone; an engine that is not opened has none of them.
func notYetOpened() map[string]impl.Stage {
	all := map[string]impl.Stage{
		"Closed":               {Closed: true},
		"Failed":               {Failed: true},
		"At 1":                 {At: 1},
		"At -1":                {At: -1},
		"Fixed 1":              {Fixed: 1},
		"Fixed -1":             {Fixed: -1},
		"Tops":                 {Tops: []int64{0}},
		"Clock: Top":           {Clock: impl.Clock{Top: 2}},
		"Clock: Price":         {Clock: impl.Clock{Price: 1}},
		"Clock: Step":          {Clock: impl.Clock{Step: 1}},
		"Clock: Budget":        {Clock: impl.Clock{Budget: 1}},
		"Clock: Budget -1":     {Clock: impl.Clock{Budget: -1}},
		"Clock: a Bid":         {Clock: impl.Clock{Bids: make([]impl.Bid, 1)}},
		"Clock: a Place":       {Clock: impl.Clock{Plan: make([]impl.Place, 1)}},
		"Clock: a Station":     {Clock: impl.Clock{Table: impl.Table{Stations: make([]impl.Station, 1)}}},
		"Clock: a Pair":        {Clock: impl.Clock{Table: impl.Table{Pairs: make([]impl.Pair, 1)}}},
		"Clock: its Table":     {Clock: impl.Clock{Table: fourStations()}},
		"the least numbers":    {At: math.MinInt64, Fixed: math.MinInt64},
		"the greatest numbers": {At: math.MaxInt64, Fixed: math.MaxInt64},
	}
	for what, s := range rightStages() {
		all["a right one: "+what] = s
	}
	return all
}

// wrongEngines: engines that are not right, each by one thing alone.
func wrongEngines() map[string]impl.Engine {
	all := map[string]impl.Engine{
		"opened, with nothing":                  {Opened: true},
		"opened, the zero Stage":                openedOn(impl.Stage{}),
		"opened, no Table":                      {Opened: true, Stage: fourStage()},
		"opened, no Table, nor a Stage's":       {Opened: true, Stage: impl.Stage{Clock: impl.Clock{Top: 4, Step: 1}, Tops: []int64{4}}},
		"Must of no Table":                      {Must: []int64{3}},
		"Must of no Table, 0":                   {Must: []int64{0}},
		"Pairs with no Stations":                {Table: impl.Table{Pairs: fourStations().Pairs}},
		"Pairs with no Stations, an empty list": {Table: impl.Table{Stations: []impl.Station{}, Pairs: fourStations().Pairs}},
		"Pairs with no Stations, opened":        withEngine(func(e *impl.Engine) { *e = openedOn(fourStage()); e.Table.Stations, e.Must = nil, nil }),
		"one Station with nothing":              ofTable(impl.Table{Stations: make([]impl.Station, 1)}),
		"Table and Stage's not right": withEngine(func(e *impl.Engine) {
			*e = openedOn(fourStage())
			e.Table, e.Stage.Clock.Table = impl.Table{}, impl.Table{}
		}),
	}
	for what, table := range wrongTables() {
		if len(table.Stations)+len(table.Pairs) > 0 {
			all["Table: "+what] = ofTable(table)
			all["Table: "+what+", opened"] = impl.Engine{Table: table, Opened: true, Stage: fourStage()}
			all["both Tables: "+what] = impl.Engine{Table: table, Opened: true, Stage: impl.Stage{Clock: impl.Clock{Table: table, Top: 4, Step: 1}, Tops: []int64{4}}}
		}
	}
	for what, must := range map[string][]int64{
		"falling": {8, 3}, "falling behind others": {3, 20, 8}, "twice": {3, 3}, "twice at last": {3, 21, 21}, "of no Station": {4}, "of no Station at last": {3, 22}, "0": {0}, "below 0": {-3},
		"the least": {math.MinInt64, 3}, "the greatest": {3, math.MaxInt64}, "more than all": {3, 8, 20, 21, 21}, "more than MaxList": channels(1, impl.MaxList+1),
	} {
		all["Must: "+what] = withEngine(func(e *impl.Engine) { e.Must = must })
		all["Must: "+what+", opened"] = withEngine(func(e *impl.Engine) { *e = openedOn(fourStage()); e.Must = must })
	}
	for what, s := range notYetOpened() {
		all["not opened: "+what] = withEngine(func(e *impl.Engine) { e.Stage = s })
		all["not opened, no Table: "+what] = impl.Engine{Stage: s}
	}
	for what, s := range wrongStages() {
		all["Stage: "+what] = impl.Engine{Table: s.Clock.Table, Opened: true, Stage: s}
		all["Stage: "+what+", of four"] = openedOn(s)
	}
	for what, table := range otherTables() {
		all["Stage of another Table: "+what] = impl.Engine{Table: table, Opened: true, Stage: fourStage()}
	}
	return all
}

func TestEngineRightAtItsEdges(t *testing.T) {
	for what, e := range rightEngines() {
		if !impl.EngineRight(e) || !engineRightByHand(e) {
			t.Errorf("%s: is told not to be right", what)
		}
	}
	for what, e := range wrongEngines() {
		if impl.EngineRight(e) || engineRightByHand(e) {
			t.Errorf("%s: is told to be right", what)
		}
	}
	for what, table := range otherTables() {
		if !impl.EngineRight(ofTable(table)) {
			t.Errorf("%s: its table alone is told not to be right", what)
		}
	}
	for what, table := range rightTables() {
		if !impl.EngineRight(ofTable(table)) || !impl.EngineRight(ofTable(table, idsByHand(table)...)) {
			t.Errorf("%s: is told not to be right", what)
		}
	}
}

// someLines: right lines of each row and lines that are none.
func someLines() []string {
	return []string{"station 30 1 2", "station 1 1 2", "same 8 20", "beside 20 21", "same 3 3", "must 8", "must 3", "must 4", "open 10 4 100 10 4 6", "open 0 0 0 0 0", "round", "round 8 20", "round 20 8",
		"close 0", "close 100", "needs", "total", "bid 3", "bid 4", "channel 3", "channel 4", "", " ", "round ", "bids", "close", "close 01", "must", "open 1", "station 1 1", "needs 1", strings.Repeat("x", 61)}
}

// An engine that is not right: each line is refused by that, ahead of what the line is.
func TestWrongEnginesAreRefused(t *testing.T) {
	form := refusedEngine(impl.ErrForm)
	for what, e := range wrongEngines() {
		before := keptEngine(e)
		for _, line := range someLines() {
			wantEngineOut(t, fmt.Sprintf("%s: %q", what, line), impl.EngineDo(e, line), form)
		}
		wantEngine(t, what+": what was handed in", e, before)
	}
}

// A right engine: each line as by hand, with all that is told beside its code.
func TestRightEnginesByHand(t *testing.T) {
	codes := map[int64]int{}
	for what, e := range rightEngines() {
		for _, line := range someLines() {
			want := engineDoByHand(e, line)
			wantDo(t, what, e, line, want)
			codes[want.Code]++
		}
	}
	for _, code := range []int64{impl.OK, impl.ErrForm, impl.ErrSyntax, impl.ErrNone, impl.ErrState} {
		if codes[code] < 10 {
			t.Errorf("the code %d comes %d times", code, codes[code])
		}
	}
}

func TestEngineOfStations(t *testing.T) {
	form, state, syntax := refusedEngine(impl.ErrForm), refusedEngine(impl.ErrState), refusedEngine(impl.ErrSyntax)
	none := impl.Engine{}
	plain := withEngine(func(e *impl.Engine) { e.Table.Pairs = nil })
	more := func(e impl.Engine, s impl.Station) impl.EngineOut {
		e = keptEngine(e)
		e.Table.Stations = append(e.Table.Stations, s)
		return did(e, "ok")
	}
	eleven, twelve := ofTable(impl.Table{Stations: stationsOf(11)}, 2, 5), ofTable(impl.Table{Stations: stationsOf(12)})
	for _, c := range []struct {
		what string
		e    impl.Engine
		line string
		want impl.EngineOut
	}{
		{"the first", none, "station 5 10 2 3", did(ofTable(oneStation(5, 10, 2, 3)), "ok")},
		{"the least", none, "station 1 1 2", did(ofTable(oneStation(1, 1, 2)), "ok")},
		{"the greatest", none, "station 999 1000 44 45 46 47 48 49 50 51", did(ofTable(oneStation(999, 1000, channels(44, 8)...)), "ok")},
		{"Id 0", none, "station 0 10 2", form},
		{"Id 1000", none, "station 1000 10 2", form},
		{"Id MaxMoney", none, "station 1000000000000 10 2", form},
		{"Id above MaxMoney", none, "station 1000000000001 10 2", syntax},
		{"Score 0", none, "station 5 0 2", form},
		{"Score 1001", none, "station 5 1001 2", form},
		{"below LowChannel", none, "station 5 10 1 2", form},
		{"channel 0", none, "station 5 10 0", form},
		{"HighChannel", none, "station 5 10 51", did(ofTable(oneStation(5, 10, 51)), "ok")},
		{"above HighChannel", none, "station 5 10 51 52", form},
		{"channels alike", none, "station 5 10 2 2", form},
		{"channels falling", none, "station 5 10 3 2", form},
		{"channels falling at last", none, "station 5 10 3 9 8", form},
		{"MaxDomain", none, "station 5 10 2 3 4 5 6 7 8 9", did(ofTable(oneStation(5, 10, channels(2, 8)...)), "ok")},
		{"one channel more", none, "station 5 10 2 3 4 5 6 7 8 9 10", form},
		{"no Domain", none, "station 5 10", syntax},
		{"Id alone", none, "station 5", syntax},
		{"the word alone", none, "station", syntax},
		{"behind others", plain, "station 22 7 3", more(plain, impl.Station{Id: 22, Score: 7, Domain: []int64{3}})},
		{"far behind others", plain, "station 999 7 3 51", more(plain, impl.Station{Id: 999, Score: 7, Domain: []int64{3, 51}})},
		{"the last Id again", plain, "station 21 7 3", form},
		{"the last Station again", plain, "station 21 4 6 51", form},
		{"an Id ahead of the last", plain, "station 19 7 3", form},
		{"an Id ahead of all", plain, "station 1 7 3", form},
		{"behind a Pair", fourEngine(), "station 22 7 3", form},
		{"behind a Pair, and not rising", fourEngine(), "station 1 7 3", form},
		{"the twelfth", eleven, "station 20 7 3", more(eleven, impl.Station{Id: 20, Score: 7, Domain: []int64{3}})},
		{"the thirteenth", twelve, "station 20 7 3", form},
		{"opened", openedOn(fourStage()), "station 22 7 3", state},
		{"opened, what would not be right", openedOn(fourStage()), "station 0 0 0", state},
		{"opened, no Domain", openedOn(fourStage()), "station 22 7", syntax},
		{"closed", openedOn(closedStage()), "station 22 7 3", state},
		{"failed", openedOn(failedStage()), "station 22 7 3", state},
	} {
		wantDo(t, c.what, c.e, c.line, c.want)
	}
}

func TestEngineOfPairs(t *testing.T) {
	form, state, syntax := refusedEngine(impl.ErrForm), refusedEngine(impl.ErrState), refusedEngine(impl.ErrSyntax)
	more := func(e impl.Engine, a int64, b int64, kind int64) impl.EngineOut {
		e = keptEngine(e)
		e.Table.Pairs = append(e.Table.Pairs, impl.Pair{A: a, B: b, Kind: kind})
		return did(e, "ok")
	}
	four := fourEngine()
	later := more(four, 8, 20, impl.PairSame).Engine
	bare := withEngine(func(e *impl.Engine) { e.Table.Pairs = nil })
	full := ofTable(impl.Table{Stations: stationsOf(10), Pairs: pairsOf(10, 40)}, 1, 9)
	nearly := ofTable(impl.Table{Stations: stationsOf(10), Pairs: pairsOf(10, 39)}, 1, 9)
	last := full.Table.Pairs[39]
	for _, c := range []struct {
		what string
		e    impl.Engine
		line string
		want impl.EngineOut
	}{
		{"the first", bare, "same 3 8", more(bare, 3, 8, 1)},
		{"the first", bare, "beside 20 21", more(bare, 20, 21, 2)},
		{"of a greater A", four, "same 8 20", more(four, 8, 20, 1)},
		{"of a greater A", four, "beside 8 20", more(four, 8, 20, 2)},
		{"of a greater B", four, "same 3 21", more(four, 3, 21, 1)},
		{"the last two", four, "beside 20 21", more(four, 20, 21, 2)},
		{"twice", four, "beside 3 20", form},
		{"twice, of another Kind", four, "same 3 20", form},
		{"twice, ahead of the last", four, "same 3 8", form},
		{"twice, ahead, of another Kind", four, "beside 3 8", form},
		{"out of order by A", later, "same 3 21", form},
		{"in order behind it", later, "same 8 21", more(later, 8, 21, 1)},
		{"the other order", four, "same 20 8", form},
		{"the other order of one that is there", four, "same 8 3", form},
		{"one and the same", four, "same 8 8", form},
		{"one and the same", four, "beside 21 21", form},
		{"no such A", four, "same 4 20", form},
		{"no such B", four, "same 8 19", form},
		{"neither", four, "beside 900 901", form},
		{"A 0", four, "same 0 3", form},
		{"both 0", four, "same 0 0", form},
		{"MaxMoney", four, "same 3 1000000000000", form},
		{"no Stations", impl.Engine{}, "same 1 2", form},
		{"no Stations", impl.Engine{}, "beside 1 2", form},
		{"one Station", ofTable(oneStation(5, 10, 2)), "same 5 6", form},
		{"the fortieth", nearly, fmt.Sprintf("%s %d %d", []string{"", "same", "beside"}[last.Kind], last.A, last.B), did(full, "ok")},
		{"the forty-first", full, "same 9 10", form},
		{"A alone", four, "same 8", syntax},
		{"one more", four, "beside 8 20 21", syntax},
		{"the word alone", four, "beside", syntax},
		{"opened", openedOn(fourStage()), "same 8 20", state},
		{"opened, twice", openedOn(fourStage()), "beside 3 20", state},
		{"opened, one more", openedOn(fourStage()), "same 8 20 21", syntax},
		{"closed", openedOn(closedStage()), "beside 8 20", state},
		{"failed", openedOn(failedStage()), "beside 8 20", state},
	} {
		wantDo(t, c.what, c.e, c.line, c.want)
	}
}

func TestEngineOfMust(t *testing.T) {
	form, state, syntax, none := refusedEngine(impl.ErrForm), refusedEngine(impl.ErrState), refusedEngine(impl.ErrSyntax), refusedEngine(impl.ErrNone)
	musts := func(must ...int64) impl.Engine { return withEngine(func(e *impl.Engine) { e.Must = must }) }
	for _, c := range []struct {
		what string
		e    impl.Engine
		line string
		want impl.EngineOut
	}{
		{"the first", musts(), "must 20", did(musts(20), "ok")},
		{"behind one", musts(3), "must 20", did(musts(3, 20), "ok")},
		{"ahead of one", musts(20), "must 3", did(musts(3, 20), "ok")},
		{"between two", musts(3, 20), "must 8", did(musts(3, 8, 20), "ok")},
		{"the last one left", musts(3, 8, 20), "must 21", did(musts(3, 8, 20, 21), "ok")},
		{"twice", musts(3), "must 3", form},
		{"twice, behind others", musts(3, 8, 20), "must 20", form},
		{"twice, where all must", musts(3, 8, 20, 21), "must 8", form},
		{"no such Station", musts(3), "must 4", none},
		{"0", musts(3), "must 0", none},
		{"1000", musts(3), "must 1000", none},
		{"MaxMoney", musts(3), "must 1000000000000", none},
		{"above MaxMoney", musts(3), "must 1000000000001", syntax},
		{"no Stations", impl.Engine{}, "must 1", none},
		{"no number", musts(3), "must", syntax},
		{"two numbers", musts(3), "must 8 20", syntax},
		{"opened", openedOn(fourStage()), "must 8", state},
		{"opened, twice", openedOn(fourStage()), "must 3", state},
		{"opened, no such Station", openedOn(fourStage()), "must 4", state},
		{"opened, no number", openedOn(fourStage()), "must", syntax},
		{"closed", openedOn(closedStage()), "must 8", state},
		{"failed", openedOn(failedStage()), "must 4", state},
	} {
		wantDo(t, c.what, c.e, c.line, c.want)
	}
	// A Station may still come behind a must, and a must behind Pairs.
	lines := []string{"station 5 10 2", "must 5", "station 9 10 2 3", "same 5 9", "must 9", "must 5"}
	wantReplies(t, "in any order", impl.EngineRun(lines), []string{"ok", "ok", "ok", "ok", "ok", "error 1"})
	falling := impl.EngineEnd(append(tableLines(fourStations()), "must 21", "must 20", "must 8", "must 3"))
	wantEngine(t, "falling", falling, musts(3, 8, 20, 21))
}

func TestEngineOfOpening(t *testing.T) {
	form, state, syntax := refusedEngine(impl.ErrForm), refusedEngine(impl.ErrState), refusedEngine(impl.ErrSyntax)
	none, infeasible := refusedEngine(impl.ErrNone), refusedEngine(impl.ErrInfeasible)
	opened := func(price int64, step int64, budget int64, fixed int64, tops ...int64) impl.EngineOut {
		c := impl.Clock{Table: fourStations(), Top: tops[0], Price: price, Step: step, Budget: budget, Bids: bidsOf(3, 3, 0, 8, 1, 2*price, 20, 1, 3*price, 21, 1, 4*price), Plan: placesOf(3, 4)}
		return did(openedOn(impl.Stage{Clock: c, Tops: tops, Fixed: fixed}), "active 3")
	}
	nobody := withEngine(func(e *impl.Engine) { e.Must = nil })
	all := withEngine(func(e *impl.Engine) { e.Must = []int64{3, 8, 20, 21} })
	apart := withEngine(func(e *impl.Engine) { e.Must = []int64{3, 20} })
	for _, c := range []struct {
		what string
		e    impl.Engine
		line string
		want impl.EngineOut
	}{
		{"ordinary", fourEngine(), "open 10 4 100 10 4 6", opened(10, 4, 100, 10, 4, 6)},
		{"one top", fourEngine(), "open 10 4 100 10 4", opened(10, 4, 100, 10, 4)},
		{"MaxTops", fourEngine(), "open 10 4 100 10 4 5 6 7 8 9", opened(10, 4, 100, 10, 4, 5, 6, 7, 8, 9)},
		{"one top more", fourEngine(), "open 10 4 100 10 4 5 6 7 8 9 10", form},
		{"no top", fourEngine(), "open 10 4 100 10", syntax},
		{"the word alone", fourEngine(), "open", syntax},
		{"tops alike", fourEngine(), "open 10 4 100 10 4 4", form},
		{"tops falling", fourEngine(), "open 10 4 100 10 6 4", form},
		{"HighChannel", fourEngine(), "open 10 4 100 10 4 51", opened(10, 4, 100, 10, 4, 51)},
		{"above HighChannel", fourEngine(), "open 10 4 100 10 4 52", form},
		{"below LowChannel", fourEngine(), "open 10 4 100 10 1 4", form},
		{"top 0", fourEngine(), "open 10 4 100 10 0", form},
		{"Price 0", fourEngine(), "open 0 4 100 10 4 6", opened(0, 4, 100, 10, 4, 6)},
		{"Price MaxPrice", fourEngine(), "open 1000000 4 100 10 4 6", opened(1000000, 4, 100, 10, 4, 6)},
		{"Price of one more", fourEngine(), "open 1000001 4 100 10 4 6", form},
		{"Price MaxMoney", fourEngine(), "open 1000000000000 4 100 10 4 6", form},
		{"Price below 0", fourEngine(), "open -1 4 100 10 4 6", syntax},
		{"Step 0", fourEngine(), "open 10 0 100 10 4 6", form},
		{"Step 1", fourEngine(), "open 10 1 100 10 4 6", opened(10, 1, 100, 10, 4, 6)},
		{"Step MaxPrice", fourEngine(), "open 10 1000000 100 10 4 6", opened(10, 1000000, 100, 10, 4, 6)},
		{"Step of one more", fourEngine(), "open 10 1000001 100 10 4 6", form},
		{"Budget 0, with which nothing is shown", fourEngine(), "open 10 4 0 10 4 6", infeasible},
		{"Budget 1", fourEngine(), "open 10 4 1 10 4 6", opened(10, 4, 1, 10, 4, 6)},
		{"Budget MaxSolve", fourEngine(), "open 10 4 300 10 4 6", opened(10, 4, 300, 10, 4, 6)},
		{"Budget of one more", fourEngine(), "open 10 4 301 10 4 6", form},
		{"Fixed 0", fourEngine(), "open 10 4 100 0 4 6", opened(10, 4, 100, 0, 4, 6)},
		{"Fixed MaxMoney", fourEngine(), "open 10 4 100 1000000000000 4 6", opened(10, 4, 100, impl.MaxMoney, 4, 6)},
		{"Fixed of one more", fourEngine(), "open 10 4 100 1000000000001 4 6", syntax},
		{"Fixed below 0", fourEngine(), "open 10 4 100 -1 4 6", syntax},
		{"all numbers 0", fourEngine(), "open 0 0 0 0 0", form},
		{"nothing left for who must", fourEngine(), "open 10 4 100 10 3 6", infeasible},
		{"nothing left for who must, and tops falling", fourEngine(), "open 10 4 100 10 3 2", form},
		{"nothing left for who must, and Step 0", fourEngine(), "open 10 0 100 10 3 6", form},
		{"no plan at the first top", apart, "open 10 4 100 10 5 6", infeasible},
		{"no Station", impl.Engine{}, "open 10 4 100 10 4 6", none},
		{"no Station, and wrong numbers", impl.Engine{}, "open 0 0 0 0 0", none},
		{"no Station, no top", impl.Engine{}, "open 10 4 100 10", syntax},
		{"opened", openedOn(fourStage()), "open 10 4 100 10 4 6", state},
		{"opened, wrong numbers", openedOn(fourStage()), "open 0 0 0 0 0", state},
		{"opened, no top", openedOn(fourStage()), "open 10 4 100 10", syntax},
		{"closed", openedOn(closedStage()), "open 10 4 100 10 4 6", state},
		{"failed", openedOn(failedStage()), "open 10 4 100 10 4 6", state},
	} {
		wantDo(t, c.what, c.e, c.line, c.want)
	}
	for _, c := range []struct {
		what  string
		e     impl.Engine
		line  string
		reply string
	}{
		{"nobody must", nobody, "open 10 4 100 10 2", "active 4"},
		{"all must", all, "open 10 4 100 10 9", "active 0"},
		{"two must", apart, "open 10 4 100 10 6 9", "active 2"},
	} {
		wantDo(t, c.what, c.e, c.line, engineDoByHand(c.e, c.line))
		if got := impl.EngineDo(c.e, c.line); got.Reply != c.reply || !got.Changed {
			t.Errorf("%s: got %+v", c.what, got)
		}
	}
}

func TestEngineOfRounds(t *testing.T) {
	form, state, syntax := refusedEngine(impl.ErrForm), refusedEngine(impl.ErrState), refusedEngine(impl.ErrSyntax)
	next := func(price int64, reply string, bids []impl.Bid, plan []impl.Place) impl.EngineOut {
		s := biddingStage()
		s.Clock.Price, s.Clock.Bids, s.Clock.Plan = price, bids, plan
		return did(openedOn(s), reply)
	}
	bidding := openedOn(biddingStage())
	for _, c := range []struct {
		what string
		e    impl.Engine
		line string
		want impl.EngineOut
	}{
		{"all stay", bidding, "round 8 20 21", next(6, "active 1 price 6", bidsOf(3, 3, 0, 8, 1, 12, 20, 2, 30, 21, 2, 40), placesOf(3, 4))},
		{"also who is out", bidding, "round 3 8 20 21", next(6, "active 1 price 6", bidsOf(3, 3, 0, 8, 1, 12, 20, 2, 30, 21, 2, 40), placesOf(3, 4))},
		{"one stays", bidding, "round 8", next(6, "active 1 price 6", bidsOf(3, 3, 0, 8, 1, 12, 20, 2, 30, 21, 2, 40), placesOf(3, 4))},
		{"nobody stays", bidding, "round", next(6, "active 0 price 6", bidsOf(3, 3, 0, 8, 3, 0, 20, 2, 30, 21, 2, 40), placesOf(3, 4, 8, 3))},
		{"others stay", bidding, "round 20 21", next(6, "active 0 price 6", bidsOf(3, 3, 0, 8, 3, 0, 20, 2, 30, 21, 2, 40), placesOf(3, 4, 8, 3))},
		{"falling", bidding, "round 20 8", form},
		{"twice", bidding, "round 8 8", form},
		{"no such Station", bidding, "round 4", form},
		{"no such Station at last", bidding, "round 8 22", form},
		{"0", bidding, "round 0", form},
		{"MaxMoney", bidding, "round 8 1000000000000", form},
		{"as many numbers as there is room for", bidding, "round" + strings.Repeat(" 8", 27), form},
		{"one more", bidding, "round" + strings.Repeat(" 8", 28), syntax},
		{"a blank behind", bidding, "round ", syntax},
		{"ended", openedOn(fourStage()), "round", state},
		{"ended, all stay", openedOn(fourStage()), "round 8 20 21", state},
		{"ended, no such Station", openedOn(fourStage()), "round 4", form},
		{"closed", openedOn(closedStage()), "round 8", state},
		{"closed, no such Station", openedOn(closedStage()), "round 4", state},
		{"failed", openedOn(failedStage()), "round", state},
		{"failed, falling", openedOn(failedStage()), "round 20 8", state},
		{"failed, with active ones", openedOn(rightStages()["failed with active ones"]), "round 8", state},
		{"all out", openedOn(outStage()), "round", state},
		{"not opened", fourEngine(), "round", state},
		{"not opened, no such Station", fourEngine(), "round 4", state},
		{"not opened, falling", fourEngine(), "round 20 8", state},
		{"nothing there", impl.Engine{}, "round", state},
		{"nothing there", impl.Engine{}, "round 1", state},
		{"not opened, a blank behind", fourEngine(), "round ", syntax},
	} {
		wantDo(t, c.what, c.e, c.line, c.want)
	}
}

func TestEngineOfClosing(t *testing.T) {
	state, syntax := refusedEngine(impl.ErrState), refusedEngine(impl.ErrSyntax)
	closed := did(openedOn(closedStage()), "closed 100")
	on := did(openedOn(withStage(func(s *impl.Stage) { s.At, s.Clock.Top, s.Clock.Bids[1].State = 1, 5, impl.BidActive })), "stage 1 active 1")
	last := openedOn(withStage(func(s *impl.Stage) { s.At, s.Clock.Top = 3, 51 }))
	failed := did(openedOn(failedStage()), "failed")
	free := openedOn(withStage(func(s *impl.Stage) { *s = outStage(); s.Fixed = 0 }))
	full := openedOn(withStage(func(s *impl.Stage) { s.Fixed = impl.MaxMoney - 90 }))
	over := openedOn(withStage(func(s *impl.Stage) { s.Fixed = impl.MaxMoney - 89 }))
	for _, c := range []struct {
		what string
		e    impl.Engine
		line string
		want impl.EngineOut
	}{
		{"just what is needed", openedOn(fourStage()), "close 100", closed},
		{"one more", openedOn(fourStage()), "close 101", closed},
		{"MaxMoney", openedOn(fourStage()), "close 1000000000000", closed},
		{"above MaxMoney", openedOn(fourStage()), "close 1000000000001", syntax},
		{"one less", openedOn(fourStage()), "close 99", on},
		{"0", openedOn(fourStage()), "close 0", on},
		{"below 0", openedOn(fourStage()), "close -1", syntax},
		{"no number", openedOn(fourStage()), "close", syntax},
		{"two numbers", openedOn(fourStage()), "close 100 100", syntax},
		{"one less, at the last top", last, "close 99", failed},
		{"0, at the last top", last, "close 0", failed},
		{"needs of 0", free, "close 0", did(openedOn(withStage(func(s *impl.Stage) { *s = outStage(); s.Fixed, s.Closed = 0, true })), "closed 0")},
		{"nobody active at the next top", openedOn(outStage()), "close 9", did(openedOn(withStage(func(s *impl.Stage) { *s = outStage(); s.At, s.Clock.Top = 3, 51 })), "stage 3 active 0")},
		{"needs of MaxMoney", full, "close 1000000000000", did(openedOn(withStage(func(s *impl.Stage) { *s = closedStage(); s.Fixed = impl.MaxMoney - 90 })), "closed 1000000000000")},
		{"needs of one more than MaxMoney", over, "close 1000000000000", did(openedOn(withStage(func(s *impl.Stage) {
			*s = keptStage(on.Engine.Stage)
			s.Fixed = impl.MaxMoney - 89
		})), "stage 1 active 1")},
		{"a Bid is active", openedOn(biddingStage()), "close 1000", state},
		{"a Bid is active, 0", openedOn(biddingStage()), "close 0", state},
		{"one Bid is active", openedOn(rightStages()["one active, one frozen"]), "close 100", state},
		{"closed", openedOn(closedStage()), "close 100", state},
		{"closed, 0", openedOn(closedStage()), "close 0", state},
		{"failed", openedOn(failedStage()), "close 1000", state},
		{"not opened", fourEngine(), "close 100", state},
		{"nothing there", impl.Engine{}, "close 0", state},
		{"not opened, no number", fourEngine(), "close", syntax},
	} {
		wantDo(t, c.what, c.e, c.line, c.want)
	}
}

func TestEngineOfAsking(t *testing.T) {
	state, none, syntax := refusedEngine(impl.ErrState), refusedEngine(impl.ErrNone), refusedEngine(impl.ErrSyntax)
	for what, s := range map[string]impl.Stage{"ended": fourStage(), "bidding": biddingStage(), "closed": closedStage(), "failed": failedStage()} {
		e := openedOn(s)
		states := map[string]string{"ended": "2", "bidding": "1", "closed": "4", "failed": "2"}
		for line, reply := range map[string]string{
			"needs": "needs 100", "total": "total 90", "bid 3": "state 3 price 0", "channel 3": "channel 4", "channel 8": "channel 0", "channel 21": "channel 0",
			"bid 8": "state " + states[what] + " price 20", "bid 20": "state " + states[what] + " price 30", "bid 21": "state " + states[what] + " price 40",
		} {
			wantDo(t, what, e, line, only(e, reply))
		}
		for _, id := range []string{"0", "1", "2", "4", "9", "22", "999", "1000", "1000000000000"} {
			wantDo(t, what, e, "bid "+id, none)
			wantDo(t, what, e, "channel "+id, none)
		}
		for _, line := range []string{"needs 1", "total 0", "bid", "bid 3 8", "channel", "channel 3 8", "bid 1000000000001", "channel -1"} {
			wantDo(t, what, e, line, syntax)
		}
	}
	out := openedOn(outStage())
	for line, reply := range map[string]string{"channel 3": "channel 4", "channel 8": "channel 3", "channel 20": "channel 6", "channel 21": "channel 6", "needs": "needs 10", "total": "total 0"} {
		wantDo(t, "all out", out, line, only(out, reply))
	}
	high := openedOn(rightStages()["Fixed MaxMoney"])
	wantDo(t, "more than MaxMoney", high, "needs", only(high, "needs 1000000000090"))
	cold := openedOn(rightStages()["out at a Price"])
	wantDo(t, "out at a Price", cold, "bid 3", only(cold, "state 3 price 77"))
	for _, e := range []impl.Engine{{}, fourEngine(), ofTable(fourStations())} {
		for _, line := range []string{"needs", "total", "bid 3", "bid 4", "channel 3", "channel 4", "bid 0"} {
			wantDo(t, "not opened", e, line, state)
		}
		wantDo(t, "not opened", e, "needs 1", syntax)
		wantDo(t, "not opened", e, "bid", syntax)
	}
}

// The most that a table may have, typed line by line.
func TestEngineOfTheMostThereIs(t *testing.T) {
	t.Parallel()
	table := longestTable()
	lines := tableLines(table)
	for _, id := range []int64{999, 988, 993} {
		lines = append(lines, typed("must", id))
	}
	more := append(slices.Clone(lines), "beside 998 999", "station 999 1 2", "must 993")
	replies := impl.EngineRun(more)
	wantReplies(t, "behind the most", replies[len(lines):], []string{"error 1", "error 1", "error 1"})
	wantReplies(t, "the most", replies[:len(lines)], slices.Repeat([]string{"ok"}, len(lines)))
	wantEngine(t, "the most", impl.EngineEnd(more), ofTable(table, 988, 993, 999))
	lines = append(lines, "open 1000000 4000 300 1000000000000 46 47 48 49 50 51")
	if got := impl.EngineRun(lines); got[len(lines)-1] != "active 9" {
		t.Fatalf("the most is opened: %q", got[len(lines)-1])
	}
	for len(lines) < impl.MaxList {
		stays := "round 988 989 990 991 992 993 994 995 996 997 998 999"
		if len(lines)%7 == 0 {
			stays = "close 0"
		}
		lines = append(lines, stays)
	}
	told, end := runLinesBy(lines, impl.EngineDo)
	wantReplies(t, "the most, one by one", impl.EngineRun(lines), told)
	wantEngine(t, "the most, one by one", impl.EngineEnd(lines), end)
	at := slices.Index(told, "active 9")
	wantReplies(t, "the most, behind its opening", told[at:at+3], []string{"active 9", "error 8", "active 5 price 996000"})
	if !slices.Contains(told, "stage 1 active 5") || !end.Stage.Failed {
		t.Errorf("the most does not go through its tops: %q", told)
	}
}

func TestEngineRunOfListsAtTheirEdges(t *testing.T) {
	for _, none := range [][]string{nil, {}} {
		wantReplies(t, "no lines", impl.EngineRun(none), nil)
		wantEngine(t, "no lines", impl.EngineEnd(none), impl.Engine{})
	}
	wantReplies(t, "one line that is none", impl.EngineRun([]string{""}), []string{"error 3"})
	full := twoLines()
	for len(full) < impl.MaxList {
		full = append(full, []string{"needs", "x", "bid 2", "must 2"}[len(full)%4])
	}
	told := append([]string{"ok", "ok", "ok", "ok", "active 1"}, "error 3", "state 1 price 50", "error 8", "needs 55")
	for len(told) < impl.MaxList {
		told = append(told, told[len(told)-4])
	}
	wantReplies(t, "MaxList lines", impl.EngineRun(full), told)
	wantEngine(t, "MaxList lines", impl.EngineEnd(full), impl.EngineEnd(twoLines()))
	if !impl.EngineEnd(full).Opened {
		t.Errorf("MaxList lines lead to nothing")
	}
	for _, more := range [][]string{append(slices.Clone(full), "needs"), append(slices.Clone(full), ""), append(slices.Clone(full), full...), make([]string, impl.MaxList+1)} {
		wantReplies(t, "more than MaxList lines", impl.EngineRun(more), nil)
		wantEngine(t, "more than MaxList lines", impl.EngineEnd(more), impl.Engine{})
	}
	wantReplies(t, "MaxList lines of no byte", impl.EngineRun(make([]string, impl.MaxList)), slices.Repeat([]string{"error 3"}, impl.MaxList))
}

// anyNumbers: numbers for a line of that word, most of them such as it may have.
func anyNumbers(random *rand.Rand, e impl.Engine, word string) []int64 {
	near := []int64{0, 1, 2, 999, 1000}
	last := int64(0)
	for _, s := range e.Table.Stations {
		near, last = append(near, s.Id, s.Id, s.Id, s.Id+1), s.Id
	}
	id := func() int64 { return near[random.Intn(len(near))] }
	rising := func(list []int64) []int64 {
		if random.Intn(12) > 0 {
			slices.Sort(list)
			list = slices.Compact(list)
		}
		return list
	}
	some := func(low int64, span int64, most int) []int64 {
		list := []int64(nil)
		for range 1 + random.Intn(most) {
			list = append(list, low+random.Int63n(span))
		}
		return rising(list)
	}
	switch word {
	case "station":
		return append([]int64{last + random.Int63n(5), random.Int63n(40)}, some(2, 1+random.Int63n(5), 5)...)
	case "same", "beside":
		return rising([]int64{id(), id()})
	case "open":
		return append([]int64{random.Int63n(50), random.Int63n(12), []int64{random.Int63n(6), 300, 300, 300, 301}[random.Intn(5)], random.Int63n(60)}, some(2, 6, 5)...)
	case "round":
		list := someOf(random, idsByHand(e.Table))
		if random.Intn(8) == 0 {
			list = append(list, id())
		}
		return rising(list)
	case "close":
		needs := max(needsByHand(e.Stage), 0)
		return []int64{[]int64{0, needs / 2, max(needs-1, 0), max(needs-1, 0), needs, needs + 1, impl.MaxMoney, impl.MaxMoney + 1}[random.Intn(8)]}
	case "must", "bid", "channel":
		return []int64{id()}
	}
	return nil
}

// anyLine: a line for e, or one that is refused; now and then one byte of it is another one.
func anyLine(random *rand.Rand, e impl.Engine) string {
	words := []string{"station", "station", "same", "beside", "must", "open", "needs", "bid"}
	if e.Opened {
		words = []string{"round", "round", "round", "close", "close", "needs", "total", "bid", "channel", "open", "station", "must"}
	}
	word := words[random.Intn(len(words))]
	line := typed(word, anyNumbers(random, e, word)...)
	if random.Intn(10) > 0 {
		return line
	}
	at, signs := random.Intn(len(line)), " 0123456789\t\n-+xsn"
	sign := string(signs[random.Intn(len(signs))])
	switch random.Intn(4) {
	case 0:
		return line[:at] + line[at+1:]
	case 1:
		return line[:at] + sign + line[at:]
	case 2:
		return line + sign
	}
	return line[:at] + sign + line[at+1:]
}

// anyEngine: a right engine with nothing in it, with a table, or opened.
func anyEngine(random *rand.Rand, i int) impl.Engine {
	if i%11 == 0 {
		return impl.Engine{}
	}
	s := anyStage(random, i)
	e := impl.Engine{Table: s.Clock.Table, Must: someOf(random, idsByHand(s.Clock.Table))}
	if i%3 == 0 {
		e.Table.Pairs = nil
	}
	if i%3 == 2 {
		e.Opened, e.Stage = true, s
	}
	return e
}

func TestEngineDoByHand(t *testing.T) {
	t.Parallel()
	random := rand.New(rand.NewSource(150))
	counts := map[string]int{}
	for i := range 500 {
		e := anyEngine(random, i)
		for range 5 {
			line := anyLine(random, e)
			want := engineDoByHand(e, line)
			wantDo(t, fmt.Sprintf("%+v", e), e, line, want)
			counts[fmt.Sprint("code ", want.Code)]++
			counts[strings.Split(line, " ")[0]+fmt.Sprint(" ", want.Code)]++
		}
	}
	for _, kind := range []string{"station 0", "same 0", "beside 0", "must 0", "open 0", "round 0", "close 0", "needs 0", "total 0", "bid 0", "channel 0",
		"station 1", "same 1", "must 1", "must 7", "open 1", "open 9", "open 7", "round 1", "round 8", "close 8", "bid 7", "channel 7", "needs 8", "open 8"} {
		if counts[kind] < 5 {
			t.Errorf("%s comes %d times: %v", kind, counts[kind], counts)
		}
	}
	if counts["code 0"] < 500 || counts["code 3"] < 50 {
		t.Errorf("the lines are all of one kind: %v", counts)
	}
}

// An engine that is changed in one thing is right, or not, as by hand.
func TestEngineThatIsChanged(t *testing.T) {
	t.Parallel()
	random := rand.New(rand.NewSource(151))
	counts := map[bool]int{}
	for i := range 2000 {
		e := keptEngine(anyEngine(random, i))
		other := anyEngine(random, i/2)
		switch n := random.Int63n(9) - 1; i % 9 {
		case 0:
			e.Opened = !e.Opened
		case 1:
			e.Must = append(e.Must, n)
		case 2:
			e.Must = append([]int64{n}, e.Must...)
		case 3:
			e.Table = other.Table
		case 4:
			e.Stage = other.Stage
		case 5:
			e.Stage.At += n / 7
		case 6:
			e.Table.Pairs = append(e.Table.Pairs, impl.Pair{A: n, B: n + 1, Kind: 1})
		case 7:
			e.Stage.Clock.Table.Pairs = nil
		case 8:
			slices.Reverse(e.Must)
		}
		right := engineRightByHand(e)
		counts[right]++
		if got := impl.EngineRight(e); got != right {
			t.Errorf("%.900s: is told to be right: %v", fmt.Sprintf("%+v", e), got)
		}
		line := anyLine(random, e)
		wantEngineOut(t, fmt.Sprintf("%q of %+v", line, e), impl.EngineDo(e, line), engineDoByHand(e, line))
	}
	if counts[true] < 400 || counts[false] < 400 {
		t.Errorf("the engines are all of one kind: %v", counts)
	}
}

// anyLines: so many lines of one auction, each with what is refused beside it.
func anyLines(random *rand.Rand, count int) []string {
	e, lines := impl.Engine{}, []string(nil)
	for len(lines) < count {
		line := anyLine(random, e)
		if strings.HasPrefix(line, "open") && len(e.Table.Stations) < 3 {
			continue
		}
		lines = append(lines, line)
		if out := impl.EngineDo(e, line); out.Code == impl.OK {
			e = out.Engine
		}
	}
	return lines
}

// Promise 26: lines are told one by one, as by hand and as each one alone is, from where those ahead of it led to.
func TestEngineTellsLinesOneByOne(t *testing.T) {
	random := rand.New(rand.NewSource(26))
	counts := map[string]int{}
	for i := range 60 {
		lines := anyLines(random, 10+random.Intn(60))
		what := fmt.Sprintf("%q", lines)
		got := impl.EngineRun(lines)
		byHand, end := runLinesBy(lines, engineDoByHand)
		alone, behind := runLinesBy(lines, impl.EngineDo)
		wantReplies(t, what+", by hand", got, byHand)
		wantReplies(t, what+", line by line", got, alone)
		wantEngine(t, what+", by hand", impl.EngineEnd(lines), end)
		wantEngine(t, what+", line by line", impl.EngineEnd(lines), behind)
		if !impl.EngineRight(end) {
			t.Errorf("%.900s: leads to what is not right", what)
		}
		for at := range lines {
			if i%6 > 0 {
				break
			}
			wantReplies(t, what+", as far as it goes", impl.EngineRun(lines[:at+1]), got[:at+1])
			told := impl.EngineDo(impl.EngineEnd(lines[:at]), lines[at])
			if told.Code == impl.OK && told.Reply != got[at] || told.Code != impl.OK && fmt.Sprint("error ", told.Code) != got[at] {
				t.Errorf("%.900s: the line %d tells %q, alone %+v", what, at, got[at], told)
			}
		}
		for _, reply := range got {
			counts[strings.Split(reply, " ")[0]]++
		}
	}
	for _, kind := range []string{"ok", "active", "stage", "closed", "failed", "needs", "total", "state", "channel", "error"} {
		if counts[kind] < 5 {
			t.Errorf("%s is told %d times: %v", kind, counts[kind], counts)
		}
	}
}

// Promise 26: what is refused, or only asks, may as well not be there.
func TestWhatIsRefusedOrAsksChangesNothing(t *testing.T) {
	t.Parallel()
	random := rand.New(rand.NewSource(27))
	refused, asking, changing := 0, 0, 0
	for range 250 {
		lines := anyLines(random, 10+random.Intn(60))
		what := fmt.Sprintf("%q", lines)
		e, kept, told := impl.Engine{}, []string(nil), []string(nil)
		for at, line := range lines {
			before := keptEngine(e)
			out := impl.EngineDo(e, line)
			wantEngine(t, what+": what was handed in", e, before)
			word := strings.Split(line, " ")[0]
			switch {
			case out.Code != impl.OK:
				refused++
				wantEngineOut(t, what, out, refusedEngine(out.Code))
				wantEngine(t, fmt.Sprintf("%s: behind %d, which is refused", what, at), impl.EngineEnd(lines[:at+1]), before)
			case slices.Contains([]string{"needs", "total", "bid", "channel"}, word):
				asking++
				wantEngineOut(t, what, out, only(before, out.Reply))
				wantEngine(t, fmt.Sprintf("%s: behind %d, which asks", what, at), impl.EngineEnd(lines[:at+1]), before)
			default:
				changing++
				if !out.Changed || enginesAlike(out.Engine, before) {
					t.Errorf("%.900s: %q changes nothing: %+v", what, line, out)
				}
				e, kept, told = out.Engine, append(kept, line), append(told, out.Reply)
			}
		}
		wantReplies(t, what+", without those", impl.EngineRun(kept), told)
		wantEngine(t, what+", without those", impl.EngineEnd(kept), e)
		wantEngine(t, what+", with those", impl.EngineEnd(lines), e)
	}
	if refused < 2000 || asking < 500 || changing < 1000 {
		t.Errorf("%d are refused, %d ask, %d change something", refused, asking, changing)
	}
}

// Each line that may be refused, put in at each place of an auction, changes nothing that comes behind it.
func TestRefusedLinesAnywhere(t *testing.T) {
	lines := twoLines("round 2", "close 54", "round 2", "round", "close 5")
	plain, end := impl.EngineRun(lines), impl.EngineEnd(lines)
	for at := range len(lines) + 1 {
		for _, line := range append(someLines(), "station 1 10 2 3", "bid 2", "must 1", "channel 1", "round 1 1") {
			out := impl.EngineDo(impl.EngineEnd(lines[:at]), line)
			if out.Code == impl.OK && out.Changed {
				continue
			}
			with := slices.Insert(slices.Clone(lines), at, line)
			replies := impl.EngineRun(with)
			wantReplies(t, fmt.Sprintf("%q at %d", line, at), slices.Delete(replies, at, at+1), plain)
			wantEngine(t, fmt.Sprintf("%q at %d", line, at), impl.EngineEnd(with), end)
		}
	}
}

// Changed is told by the row: also of a round in which the price stays 0, and never of a line that asks.
func TestEngineChangedIsToldByTheRow(t *testing.T) {
	lines := []string{"station 5 10 2", "open 0 1 100 0 2", "round 5"}
	e := impl.EngineEnd(lines[:2])
	wantDo(t, "the price is 0", e, "round 5", did(impl.EngineEnd(lines), "active 0 price 0"))
	for _, line := range []string{"needs", "total", "bid 5", "channel 5"} {
		if out := impl.EngineDo(e, line); out.Changed || out.Code != impl.OK {
			t.Errorf("%s: got %+v", line, out)
		}
	}
}

func TestEngineKeepsNothing(t *testing.T) {
	random := rand.New(rand.NewSource(152))
	lines := twoLines("round 2", "close 54", "bid 2")
	replies, end := impl.EngineRun(lines), keptEngine(impl.EngineEnd(lines))
	setUp, opened := keptEngineOut(impl.EngineDo(fourEngine(), "must 8")), keptEngineOut(impl.EngineDo(openedOn(fourStage()), "close 99"))
	for i := range 150 {
		e := anyEngine(random, i)
		impl.EngineDo(e, anyLine(random, e))
		impl.EngineRun(anyLines(random, 10))
		impl.EngineEnd([]string{"station 9 9 9", "x"})
		impl.EngineDo(impl.Engine{Opened: true}, "needs")
		wantReplies(t, "again", impl.EngineRun(lines), replies)
		wantEngine(t, "again", impl.EngineEnd(lines), end)
		wantEngineOut(t, "again", impl.EngineDo(fourEngine(), "must 8"), setUp)
		wantEngineOut(t, "again", impl.EngineDo(openedOn(fourStage()), "close 99"), opened)
	}
}

// A call in each of some goroutines at the same time answers what it answers alone.
func TestEngineAtTheSameTime(t *testing.T) {
	lines := twoLines("round 2", "close 54", "round 2", "bid 2", "round", "close 5")
	replies := impl.EngineRun(lines)
	told := make(chan []string)
	for range 20 {
		go func() { told <- impl.EngineRun(lines) }()
	}
	for range 20 {
		wantReplies(t, "at the same time", <-told, replies)
	}
}

func heldInEngine(e impl.Engine) []heldList {
	all := append(heldInTable(e.Table), held("Must", e.Must, -77))
	for _, list := range heldInStage(e.Stage) {
		list.name = "Stage: " + list.name
		all = append(all, list)
	}
	return all
}

// roomyEngine: lists with room behind them, which share no memory with e.
func roomyEngine(e impl.Engine) impl.Engine {
	e.Table, e.Must, e.Stage = spacious(e.Table), roomyIds(e.Must), roomyStage(e.Stage)
	return e
}

// beyondEngine: a copy of e and of the room behind its lists.
func beyondEngine(e impl.Engine) impl.Engine {
	e.Table, e.Must, e.Stage = beyond(e.Table), slices.Clone(e.Must[:cap(e.Must)]), beyondStage(e.Stage)
	return e
}

// linesFor: a line of each row that e may take, most of them not refused.
func linesFor(random *rand.Rand, e impl.Engine) []string {
	words := []string{"station", "same", "beside", "must", "open"}
	if e.Opened {
		words = []string{"round", "close", "close", "needs", "total", "bid", "channel"}
	}
	lines := []string{"x"}
	for _, word := range words {
		lines = append(lines, typed(word, anyNumbers(random, e, word)...))
	}
	return lines
}

func TestEngineChangesAndSharesNothing(t *testing.T) {
	t.Parallel()
	random := rand.New(rand.NewSource(153))
	counts := map[string]int{}
	for i := range 300 {
		e := roomyEngine(anyEngine(random, i))
		before := beyondEngine(e)
		what := fmt.Sprintf("%+v", e)
		for _, line := range linesFor(random, e) {
			call := func() impl.EngineOut { return impl.EngineDo(e, line) }
			first, second, third := call(), call(), call()
			want := keptEngineOut(third)
			turned := heldInEngine(second.Engine)
			slices.Reverse(turned)
			wantHeldApart(t, what+" "+line, heldInEngine(first.Engine))
			wantHeldApart(t, what+" "+line, turned)
			wantEngineOut(t, what+" "+line, third, want)
			wantEngineOut(t, what+" "+line+", again", call(), want)
			if want.Code == impl.OK {
				counts[strings.Split(line, " ")[0]]++
			}
		}
		impl.EngineRight(e)
		if !enginesAlike(beyondEngine(e), before) {
			t.Errorf("%.900s: what was handed in is changed, or an answer shares its memory", what)
		}
	}
	for _, word := range []string{"station", "same", "beside", "must", "open", "round", "close", "needs", "total", "bid", "channel"} {
		if counts[word] < 5 {
			t.Errorf("%s is done %d times: %v", word, counts[word], counts)
		}
	}
}

// What was handed in may share memory within itself, as where the table of its stage is its own; the answer does not.
func TestEngineOfListsThatShare(t *testing.T) {
	numbers := []int64{2, 3, 4, 5}
	table := impl.Table{Stations: []impl.Station{{Id: 2, Score: 1, Domain: numbers}, {Id: 3, Score: 2, Domain: numbers}, {Id: 4, Score: 3, Domain: numbers[1:3]}}}
	setUp := ofTable(table, numbers[:1]...)
	opened := impl.EngineDo(setUp, "open 10 4 100 5 2 3 4 5").Engine
	opened.Table, opened.Must, opened.Stage.Clock.Table, opened.Stage.Tops = table, numbers[:1], table, numbers
	ended := opened
	ended.Stage.Clock.Bids = inState(opened.Stage, impl.BidFrozen)
	for line, e := range map[string]impl.Engine{
		"station 5 1 2 3": setUp, "same 2 3": setUp, "beside 3 4": setUp, "must 3": setUp, "open 10 4 100 5 2 3 4 5": setUp,
		"round 3": opened, "round": opened, "needs": opened, "total": opened, "bid 3": opened, "channel 2": opened, "close 0": ended, "close 1000": ended,
	} {
		first, second := impl.EngineDo(e, line), impl.EngineDo(e, line)
		if first.Code != impl.OK {
			t.Fatalf("%s: got %+v", line, first)
		}
		turned := heldInEngine(second.Engine)
		slices.Reverse(turned)
		wantHeldApart(t, "lists that share: "+line, heldInEngine(first.Engine))
		wantHeldApart(t, "lists that share: "+line, turned)
	}
	wantNumbers(t, "what was handed in", numbers, []int64{2, 3, 4, 5})
}

// What was handed in may change behind an answer, which stays as it is.
func TestEngineStaysAsItIs(t *testing.T) {
	random := rand.New(rand.NewSource(154))
	for i := range 150 {
		e := keptEngine(anyEngine(random, i))
		lines, outs, before := linesFor(random, e), []impl.EngineOut(nil), []impl.EngineOut(nil)
		for _, line := range lines {
			outs = append(outs, impl.EngineDo(e, line))
			before = append(before, keptEngineOut(outs[len(outs)-1]))
		}
		for _, given := range heldInEngine(e) {
			given.spoil()
		}
		for at, out := range outs {
			wantEngineOut(t, lines[at], out, before[at])
		}
	}
}

// The lists of a run: what it tells, where it leads to, and its lines, which stay as they are.
func TestEngineRunIsNewMemory(t *testing.T) {
	random := rand.New(rand.NewSource(155))
	for range 100 {
		lines := slices.Grow(anyLines(random, 5+random.Intn(40)), 4)
		before := slices.Clone(lines[:cap(lines)])
		replies, end := slices.Clone(impl.EngineRun(lines)), keptEngine(impl.EngineEnd(lines))
		for range 2 {
			turned := heldInEngine(impl.EngineEnd(lines))
			slices.Reverse(turned)
			wantHeldApart(t, "the end", heldInEngine(impl.EngineEnd(lines)))
			wantHeldApart(t, "the end", turned)
			spoil(impl.EngineRun(lines))
		}
		wantReplies(t, "again", impl.EngineRun(lines), replies)
		wantEngine(t, "again", impl.EngineEnd(lines), end)
		if !slices.Equal(lines[:cap(lines)], before) {
			t.Errorf("%q: the lines are changed", lines)
		}
		told, kept := impl.EngineRun(lines), impl.EngineEnd(lines)
		spoil(lines)
		wantReplies(t, "behind it", told, replies)
		wantEngine(t, "behind it", kept, end)
	}
}
