package tests

import (
	"encoding/binary"
	"fmt"
	"maps"
	"math"
	"math/rand"
	"runtime"
	"slices"
	"strings"
	"testing"

	"loop.example/g00144/impl"
)

// recByHand: the record that a text begins with, and how many bytes it has, if one stands there.
func recByHand(text string) (impl.Rec, int, bool) {
	if text == "" || text[0] != 'R' {
		return impl.Rec{}, 0, false
	}
	length, told := binary.Uvarint([]byte(text[1:]))
	if told < 1 || length > 1000 || len(text) < 1+told+int(length)+4 {
		return impl.Rec{}, 0, false
	}
	body := []byte(text[1+told : 1+told+int(length)])
	kind, used := binary.Uvarint(body)
	count, more := binary.Uvarint(body[max(used, 0):])
	r := impl.Rec{Kind: int64(kind)}
	for rest := body[min(max(used, 0)+max(more, 0), len(body)):]; len(rest) > 0; {
		n, size := binary.Varint(rest)
		if size < 1 || n > impl.MaxNum || n < -impl.MaxNum {
			return impl.Rec{}, 0, false
		}
		r.Nums = append(r.Nums, n)
		rest = rest[size:]
	}
	// What tells the same in other bytes is no record.
	whole := bytesByHand(r)
	if kind < 1 || kind > 100 || len(r.Nums) > 60 || int(count) != len(r.Nums) || !strings.HasPrefix(text, whole) {
		return impl.Rec{}, 0, false
	}
	return r, len(whole), true
}

// logByHand: the lines that a text begins with, and how many bytes the records at its beginning have.
func logByHand(text string) ([]string, int) {
	lines, used := []string(nil), 0
	for {
		r, size, ok := recByHand(text[used:])
		if !ok {
			return lines, used
		}
		used += size
		line, is := []byte(nil), r.Kind == 1
		for _, n := range r.Nums {
			is = is && n >= 0 && n <= 255
			line = append(line, byte(n))
		}
		if is && len(lines) < 400 {
			lines = append(lines, string(line))
		}
	}
}

// lineRec: a line as a record.
func lineRec(line string) impl.Rec {
	r := impl.Rec{Kind: 1}
	for _, b := range []byte(line) {
		r.Nums = append(r.Nums, int64(b))
	}
	return r
}

// recordsOf: the bytes of the records of lines, one behind the other.
func recordsOf(lines ...string) string {
	text := ""
	for _, line := range lines {
		text += bytesByHand(lineRec(line))
	}
	return text
}

func diskRightByHand(d impl.Disk) bool {
	return len(d.Loose) <= 100 && !slices.Contains(d.Loose, "") && len(textByHand(d)) <= 20000
}

// writtenByHand: what LogDo is to tell, and the disk ahead of its sync; d, where nothing is written.
func writtenByHand(d impl.Disk, line string) (impl.LogOut, impl.Disk) {
	if len(line) > 20000 {
		return impl.LogOut{Code: impl.ErrSize}, impl.Disk{}
	}
	if !diskRightByHand(d) {
		return impl.LogOut{Disk: kept(d), Code: impl.ErrForm}, kept(d)
	}
	text, record := textByHand(d), recordsOf(line)
	lines, _ := logByHand(text)
	told := impl.EngineDo(impl.EngineEnd(lines), line)
	if told.Code != impl.OK || !told.Changed {
		return impl.LogOut{Disk: kept(d), Reply: told.Reply, Code: told.Code}, kept(d)
	}
	if len(lines) == 400 || len(d.Loose) == 100 || len(text)+len(record) > 20000 {
		return impl.LogOut{Disk: kept(d), Code: impl.ErrFull}, kept(d)
	}
	return impl.LogOut{Disk: impl.Disk{Safe: text + record}, Reply: told.Reply}, impl.Disk{Safe: d.Safe, Loose: append(slices.Clone(d.Loose), record)}
}

func logDoByHand(d impl.Disk, line string) impl.LogOut {
	out, _ := writtenByHand(d, line)
	return out
}

// tornByHand: what LogTorn is to tell.
func tornByHand(d impl.Disk, line string, keep int64) impl.Disk {
	out, written := writtenByHand(d, line)
	if out.Code != impl.OK || len(written.Loose) == len(d.Loose) {
		return written
	}
	return impl.Disk{Safe: crashByHand(written, keep)}
}

// openByLog: what LogOpen is to tell.
func openByLog(d impl.Disk) impl.Disk {
	if !diskRightByHand(d) {
		return kept(d)
	}
	_, used := logByHand(textByHand(d))
	return impl.Disk{Safe: textByHand(d)[:used]}
}

// logRunBy: what LogRun is to tell of no more than MaxList lines, by a function for one line.
func logRunBy(lines []string, do func(impl.Disk, string) impl.LogOut) impl.LogOut {
	run := impl.LogOut{}
	for _, line := range lines {
		out := do(run.Disk, line)
		run.Reply = out.Reply
		// A line that is too long leaves the log as it is, though no disk is told beside its code.
		if out.Code == impl.OK {
			run.Disk = out.Disk
		}
	}
	return run
}

// changing: those of the lines that change the engine, from one with nothing in it on.
func changing(lines []string) []string {
	e, list := impl.Engine{}, []string(nil)
	for _, line := range lines {
		if out := impl.EngineDo(e, line); out.Code == impl.OK && out.Changed {
			e, list = out.Engine, append(list, line)
		}
	}
	return list
}

func wantLog(t *testing.T, what string, got impl.LogOut, want impl.LogOut) {
	t.Helper()
	sameDisk(t, cutOff(what), got.Disk, want.Disk)
	if got.Reply != want.Reply || got.Code != want.Code {
		t.Errorf("%s: told %q with the code %d, want %q with %d", cutOff(what), got.Reply, got.Code, want.Reply, want.Code)
	}
}

func cutOff(text string) string {
	return text[:min(len(text), 900)]
}

// wantLogDo: what a line does on d, and that by hand it is the same.
func wantLogDo(t *testing.T, what string, d impl.Disk, line string, want impl.LogOut) {
	t.Helper()
	what = fmt.Sprintf("%s: %.80q", what, line)
	wantLog(t, what, impl.LogDo(d, line), want)
	wantLog(t, what+", by hand", logDoByHand(d, line), want)
}

// wantStands: the lines on d, the engine that they lead to, and what is left of d when it is opened.
func wantStands(t *testing.T, what string, d impl.Disk, lines []string, open impl.Disk) {
	t.Helper()
	wantReplies(t, what+", its lines", impl.LogLines(d), lines)
	wantEngine(t, what+", its engine", impl.LogEngine(d), impl.EngineEnd(lines))
	sameDisk(t, cutOff(what)+", opened", impl.LogOpen(d), open)
	wantReplies(t, what+", opened, its lines", impl.LogLines(open), lines)
	wantEngine(t, what+", opened, its engine", impl.LogEngine(open), impl.EngineEnd(lines))
	sameDisk(t, cutOff(what)+", opened again", impl.LogOpen(open), open)
}

// wantByHand: all that is told of d and of lines for it.
func wantByHand(t *testing.T, what string, d impl.Disk, lines ...string) {
	t.Helper()
	stands := []string(nil)
	if diskRightByHand(d) {
		stands, _ = logByHand(textByHand(d))
	}
	wantStands(t, what, d, stands, openByLog(d))
	for _, line := range lines {
		about := fmt.Sprintf("%s: %.80q", what, line)
		wantLog(t, about, impl.LogDo(d, line), logDoByHand(d, line))
		for _, keep := range []int64{-1, 0, 1, 9, 1000, math.MaxInt64} {
			sameDisk(t, fmt.Sprintf("%s, %d kept", cutOff(about), keep), impl.LogTorn(d, line, keep), tornByHand(d, line, keep))
		}
	}
}

// step: a line, what is told of it, and if it is kept.
type step struct {
	line  string
	reply string
	code  int64
	kept  bool
}

// wholeAuction: from its first station to closed, with lines that ask, that are refused, and that are none.
func wholeAuction() []step {
	const done, asks = true, false
	return []step{
		{"needs", "", impl.ErrState, asks},
		{"", "", impl.ErrSyntax, asks},
		{"must 1", "", impl.ErrNone, asks},
		{"open 10 4 100 5 2 4", "", impl.ErrNone, asks},
		{"station 1 10 2 3", "ok", impl.OK, done},
		{"station 1 10 2 3", "", impl.ErrForm, asks},
		{"station 2 5 2 4", "ok", impl.OK, done},
		{"stations 3 5 2 4", "", impl.ErrSyntax, asks},
		{"same 1 2", "ok", impl.OK, done},
		{"station 3 5 2 4", "", impl.ErrForm, asks},
		{"same 1 2\n", "", impl.ErrSyntax, asks},
		{"must 1", "ok", impl.OK, done},
		{"must 1", "", impl.ErrForm, asks},
		{"must 7", "", impl.ErrNone, asks},
		{"round", "", impl.ErrState, asks},
		{"open 10 4 0 5 2 4", "", impl.ErrInfeasible, asks},
		{"open 10 4 301 5 2 4", "", impl.ErrForm, asks},
		{"open 10 4 100 5 2 4", "active 1", impl.OK, done},
		{"open 10 4 100 5 2 4", "", impl.ErrState, asks},
		{"bid 2", "state 1 price 50", impl.OK, asks},
		{"channel 1", "channel 2", impl.OK, asks},
		{"channel 3", "", impl.ErrNone, asks},
		{"close 55", "", impl.ErrState, asks},
		{"round 3", "", impl.ErrForm, asks},
		{"round 2", "active 0 price 6", impl.OK, done},
		{"round 2", "", impl.ErrState, asks},
		{"needs", "needs 55", impl.OK, asks},
		{"close 54", "stage 1 active 1", impl.OK, done},
		{"total", "total 50", impl.OK, asks},
		{"round 2", "active 1 price 2", impl.OK, done},
		{"round 02", "", impl.ErrSyntax, asks},
		{"round", "active 0 price 0", impl.OK, done},
		{"bid 2", "state 3 price 0", impl.OK, asks},
		{"close 5", "closed 5", impl.OK, done},
		{"close 5", "", impl.ErrState, asks},
		{"round", "", impl.ErrState, asks},
		{"needs", "needs 5", impl.OK, asks},
		{"\xff\x00", "", impl.ErrSyntax, asks},
	}
}

// Promise 27, and what LogDo and LogRun tell of each line of a whole auction.
func TestLogOfAWholeAuction(t *testing.T) {
	t.Parallel()
	d, lines, stands := impl.Disk{}, []string(nil), []string(nil)
	for at, s := range wholeAuction() {
		what := fmt.Sprintf("line %d", at)
		lines = append(lines, s.line)
		if s.kept {
			stands = append(stands, s.line)
		}
		want := impl.LogOut{Disk: impl.Disk{Safe: recordsOf(stands...)}, Reply: s.reply, Code: s.code}
		wantLogDo(t, what, d, s.line, want)
		d = impl.LogDo(d, s.line).Disk
		wantStands(t, what, d, stands, d)
		wantEngine(t, what+": the engine of all lines", impl.LogEngine(d), impl.EngineEnd(lines))
		// The code of a line that is refused is none of the run's.
		wantLog(t, what+": at once", impl.LogRun(lines), impl.LogOut{Disk: want.Disk, Reply: s.reply})
	}
	if e := impl.LogEngine(d); !e.Stage.Closed || len(stands) != 10 {
		t.Errorf("the auction is not closed, or not all of it stands there: %q, %+v", stands, e)
	}
}

func TestLogOfOtherAuctions(t *testing.T) {
	for _, lines := range [][]string{
		twoLines("round 2", "close 55", "needs"),
		twoLines("round", "close 54", "round", "close 4", "close 4"),
		append(tableLines(longestTable()), "open 1000000 1000000 300 1000000000000 46 47 48 49 50 51", "round", "close 0"),
		append(tableLines(fourStations()), "must 3", "open 10 4 100 10 4 6", "round 8 20", "round", "close 0", "close 1000", "bid 8"),
	} {
		what := fmt.Sprintf("%q", lines)
		d := impl.LogRun(lines).Disk
		wantStands(t, what, d, changing(lines), impl.Disk{Safe: recordsOf(changing(lines)...)})
		wantEngine(t, what, impl.LogEngine(d), impl.EngineEnd(lines))
		if !impl.LogEngine(d).Opened {
			t.Errorf("%s: it is not opened", cutOff(what))
		}
	}
}

// Promise 27: in any auction just those lines stand there that changed the engine, and they lead to it again.
func TestLogKeepsWhatChanged(t *testing.T) {
	t.Parallel()
	random := rand.New(rand.NewSource(160))
	keptOnes, others := 0, 0
	for range 60 {
		lines := anyLines(random, 10+random.Intn(50))
		what := fmt.Sprintf("%q", lines)
		d, stands := impl.Disk{}, []string(nil)
		for at, line := range lines {
			told := impl.EngineDo(impl.EngineEnd(lines[:at]), line)
			if told.Changed {
				stands = append(stands, line)
				keptOnes++
			} else {
				others++
			}
			want := impl.LogOut{Disk: impl.Disk{Safe: recordsOf(stands...)}, Reply: told.Reply, Code: told.Code}
			wantLogDo(t, what, d, line, want)
			d = want.Disk
		}
		wantStands(t, what, d, stands, d)
		wantReplies(t, what+", those that change it", changing(lines), stands)
		wantEngine(t, what, impl.LogEngine(d), impl.EngineEnd(lines))
		run := impl.LogRun(lines)
		wantLog(t, what+", at once", run, logRunBy(lines, impl.LogDo))
		sameDisk(t, cutOff(what)+", at once", run.Disk, d)
	}
	if keptOnes < 300 || others < 700 {
		t.Errorf("%d lines are kept, %d are not", keptOnes, others)
	}
}

// keepsOf: numbers of bytes below, within and above a text of that size, each one of it.
func keepsOf(size int) []int64 {
	list := []int64{math.MinInt64, -allBytes, -1, int64(size) + 1, allBytes + 1, 1 << 32, math.MaxInt64}
	for keep := range size + 1 {
		list = append(list, int64(keep))
	}
	return list
}

// wantPromise28: a line that d takes is torn at each byte, and stands there as a whole or not at all; then a further one is taken.
func wantPromise28(t *testing.T, d impl.Disk, line string, next string) {
	t.Helper()
	ahead, record := impl.LogLines(d), recordsOf(line)
	done := impl.LogDo(d, line)
	sameDisk(t, line, done.Disk, impl.Disk{Safe: d.Safe + record})
	for _, keep := range keepsOf(len(record)) {
		what := fmt.Sprintf("%q, %d kept", line, keep)
		torn := impl.LogTorn(d, line, keep)
		sameDisk(t, what, torn, impl.Disk{Safe: d.Safe + record[:min(max(keep, 0), int64(len(record)))]})
		if keep >= int64(len(record)) {
			wantStands(t, what, torn, append(slices.Clone(ahead), line), done.Disk)
			wantLog(t, what+", the next line", impl.LogDo(impl.LogOpen(torn), next), impl.LogDo(done.Disk, next))
			continue
		}
		wantStands(t, what, torn, ahead, d)
		wantLog(t, what+", once more", impl.LogDo(impl.LogOpen(torn), line), done)
		wantLog(t, what+", the next line", impl.LogDo(impl.LogOpen(torn), next), impl.LogDo(d, next))
	}
}

// Promise 28: each line of a whole auction, torn at each byte, from a disk on which all ahead of it is safe.
func TestLogOfATornLine(t *testing.T) {
	steps := wholeAuction()
	d := impl.Disk{}
	for at, s := range steps {
		if s.kept {
			next := slices.IndexFunc(steps[at+1:], func(s step) bool { return s.kept })
			wantPromise28(t, d, s.line, steps[at+1+max(next, 0)].line)
		}
		d = impl.LogDo(d, s.line).Disk
	}
}

func TestLogOfTornLinesOfAnyAuction(t *testing.T) {
	t.Parallel()
	random := rand.New(rand.NewSource(28))
	for range 8 {
		lines := changing(anyLines(random, 10+random.Intn(60)))
		for at := range len(lines) - 1 {
			wantPromise28(t, impl.LogRun(lines[:at]).Disk, lines[at], lines[at+1])
		}
	}
}

// Crashes all along an auction: what was lost is typed again, and it ends as without them.
func TestLogThroughCrashes(t *testing.T) {
	random := rand.New(rand.NewSource(29))
	lost, whole := 0, 0
	for range 60 {
		lines := changing(anyLines(random, 10+random.Intn(60)))
		d := impl.Disk{}
		for at := 0; at < len(lines); {
			torn := impl.LogTorn(d, lines[at], int64(random.Intn(len(recordsOf(lines[at]))+12)-2))
			d = impl.LogOpen(torn)
			stands := impl.LogLines(d)
			if len(stands) == at {
				lost++
				d = impl.LogDo(d, lines[at]).Disk
			} else {
				whole++
			}
			at++
			wantReplies(t, "through crashes", impl.LogLines(d), lines[:at])
		}
		wantEngine(t, "through crashes", impl.LogEngine(d), impl.EngineEnd(lines))
		sameDisk(t, "through crashes", d, impl.LogRun(lines).Disk)
	}
	if lost < 50 || whole < 50 {
		t.Errorf("%d were lost, %d stood there as a whole", lost, whole)
	}
}

// A line that would not be written leaves the disk as it is, whatever is kept, also what is loose.
func TestLogTornOfWhatIsNotWritten(t *testing.T) {
	t.Parallel()
	d := impl.Disk{}
	for at, s := range wholeAuction() {
		loose := impl.Disk{Safe: d.Safe, Loose: []string{recordsOf("needs"), "R"}}
		for _, keep := range keepsOf(20) {
			what := fmt.Sprintf("line %d, %d kept", at, keep)
			if !s.kept {
				sameDisk(t, what, impl.LogTorn(d, s.line, keep), d)
				sameDisk(t, what+", loose", impl.LogTorn(loose, s.line, keep), loose)
			}
			sameDisk(t, what+", by hand", impl.LogTorn(loose, s.line, keep), tornByHand(loose, s.line, keep))
		}
		d = impl.LogDo(d, s.line).Disk
	}
}

// What was loose ahead of the line is torn with it: a crash keeps bytes from the first one that is loose on.
func TestLogTornBehindWhatIsLoose(t *testing.T) {
	records := []string{recordsOf("station 1 10 2 3"), recordsOf("station 2 5 2 4"), recordsOf("must 2")}
	last := recordsOf("must 1")
	d := impl.Disk{Safe: records[0], Loose: records[1:]}
	loose := records[1] + records[2] + last
	ends := []int{len(records[1]), len(records[1] + records[2]), len(loose)}
	all := []string{"station 1 10 2 3", "station 2 5 2 4", "must 2", "must 1"}
	for _, keep := range keepsOf(len(loose)) {
		what := fmt.Sprintf("%d kept", keep)
		torn := impl.LogTorn(d, "must 1", keep)
		stay := min(max(keep, 0), int64(len(loose)))
		sameDisk(t, what, torn, impl.Disk{Safe: records[0] + loose[:stay]})
		there := 1
		for _, end := range ends {
			if stay >= int64(end) {
				there++
			}
		}
		wantStands(t, what, torn, all[:there], impl.Disk{Safe: recordsOf(all[:there]...)})
	}
}

// someTyped: lines that are taken, ask, are refused or are none, for a log that is opened and for one that is not.
func someTyped() []string {
	return []string{"station 1 10 2 3", "station 3 7 2", "same 1 2", "must 1", "must 2", "open 10 4 100 5 2 4", "round", "round 2", "close 54", "needs", "bid 2", "channel 9", "", "x", "must", " must 1"}
}

func TestLogOfNothing(t *testing.T) {
	for what, d := range map[string]impl.Disk{"nothing": {}, "an empty list": {Loose: []string{}}} {
		wantStands(t, what, d, nil, impl.Disk{})
		wantLogDo(t, what, d, "station 1 10 2", impl.LogOut{Disk: impl.Disk{Safe: recordsOf("station 1 10 2")}, Reply: "ok"})
		wantLogDo(t, what, d, "must 1", impl.LogOut{Code: impl.ErrNone})
		wantLogDo(t, what, d, "needs", impl.LogOut{Code: impl.ErrState})
		wantLogDo(t, what, d, "", impl.LogOut{Code: impl.ErrSyntax})
		sameDisk(t, what, impl.LogTorn(d, "must 1", 5), impl.Disk{})
		wantByHand(t, what, d, someTyped()...)
	}
	wantLog(t, "no line", impl.LogRun(nil), impl.LogOut{})
	wantLog(t, "no line", impl.LogRun([]string{}), impl.LogOut{})
	// By hand, byte by byte: 82, the length, Kind, how many, two times each byte, and the sum.
	body := "\x01\x06" + "\xda\x01" + "\xea\x01" + "\xe6\x01" + "\xe8\x01" + "\x40" + "\x62"
	sum := string(binary.BigEndian.AppendUint32(nil, uint32(sumByHand("\x0c"+body))))
	got := impl.LogDo(impl.Disk{Safe: recordsOf("station 1 10 2")}, "must 1")
	wantLog(t, "the bytes of a line", got, impl.LogOut{Disk: impl.Disk{Safe: recordsOf("station 1 10 2") + "R\x0c" + body + sum}, Reply: "ok"})
}

// The text ends within a record: what is ahead of it stands there, and what is written comes behind the broken one, until it is opened.
func TestLogThatEndsWithinARecord(t *testing.T) {
	ahead := []string{"station 1 10 2 3", "station 2 5 2 4"}
	text, record := recordsOf(ahead...), recordsOf("must 2")
	for size := range len(record) {
		for what, d := range map[string]impl.Disk{
			"safe":         {Safe: text + record[:size]},
			"all of both":  {Safe: text, Loose: looseOf(record[:size])},
			"all is loose": {Loose: looseOf(text, record[:size])},
			"in two":       {Safe: text[:20], Loose: looseOf(text[20:], record[:size/2], record[size/2:size])},
		} {
			what = fmt.Sprintf("%d bytes, %s", size, what)
			wantStands(t, what, d, ahead, impl.Disk{Safe: text})
			wantLogDo(t, what, d, "must 1", impl.LogOut{Disk: impl.Disk{Safe: text + record[:size] + recordsOf("must 1")}, Reply: "ok"})
			wantLogDo(t, what, d, "needs", impl.LogOut{Disk: d, Code: impl.ErrState})
			wantLogDo(t, what+", opened", impl.LogOpen(d), "must 1", impl.LogOut{Disk: impl.Disk{Safe: text + recordsOf("must 1")}, Reply: "ok"})
			if behind := impl.LogDo(d, "must 1").Disk; size > 0 {
				wantReplies(t, what+", written behind it", impl.LogLines(behind), ahead)
				sameDisk(t, what+", written behind it, opened", impl.LogOpen(behind), impl.Disk{Safe: text})
			}
		}
	}
}

// looseOf: those of the texts that are not empty.
func looseOf(texts ...string) []string {
	return slices.DeleteFunc(texts, func(text string) bool { return text == "" })
}

// notRecords: bytes at which the records end.
func notRecords() map[string]string {
	whole := recordsOf("must 2")
	turned := []byte(whole)
	turned[len(turned)-1]++
	inside := []byte(whole)
	inside[5] ^= 2
	return map[string]string{
		"a byte":                      "x",
		"a line feed":                 "\n",
		"a nought":                    "\x00",
		"the mark alone":              "R",
		"the mark and no length":      "R\x80",
		"a length too great":          "R\xff\x7f",
		"a length in too many bytes":  "R\x81\x00",
		"text":                        "must 2\n",
		"many bytes":                  filled(700),
		"a wrong sum":                 string(turned),
		"another byte in it":          string(inside),
		"without its mark":            whole[1:],
		"Kind 0":                      sealedBody(bodyByHand(0, 2, 50, 50)),
		"Kind 101":                    sealedBody(bodyByHand(101, 2, 50, 50)),
		"fewer numbers than it tells": sealedBody(bodyByHand(1, 3, 50, 50)),
		"more numbers than it tells":  sealedBody(bodyByHand(1, 1, 50, 50)),
		"a number too many":           sealedBody(bodyByHand(1, 61, manyNums(61, 50)...)),
		"a number too great":          sealedBody(bodyByHand(1, 1, impl.MaxNum+1)),
		"a number too low":            sealedBody(bodyByHand(1, 1, -impl.MaxNum-1)),
		"a number in too many bytes":  sealedBody("\x01\x01\xe4\x80\x00"),
		"no body":                     sealedBody(""),
	}
}

// Bytes that are no record end the log, whatever records stand behind them.
func TestLogBehindWhatIsNoRecord(t *testing.T) {
	t.Parallel()
	ahead := []string{"station 1 10 2 3", "station 2 5 2 4"}
	text := recordsOf(ahead...)
	for what, bad := range notRecords() {
		for more, behind := range map[string]string{"": "", ", records behind it": recordsOf("must 1", "open 10 4 100 5 2 4")} {
			for where, d := range map[string]impl.Disk{
				"safe":          {Safe: text + bad + behind},
				"loose":         {Safe: text, Loose: looseOf(bad, behind)},
				"partly":        {Safe: text[:9], Loose: looseOf(text[9:]+bad[:1], bad[1:]+behind)},
				"without lines": {Safe: bad + behind},
			} {
				about := what + more + ", " + where
				lines, open := ahead, text
				if where == "without lines" {
					lines, open = nil, ""
				}
				wantStands(t, about, d, lines, impl.Disk{Safe: open})
				wantByHand(t, about, d, someTyped()...)
				if where != "without lines" {
					wantLogDo(t, about, d, "must 1", impl.LogOut{Disk: impl.Disk{Safe: text + bad + behind + recordsOf("must 1")}, Reply: "ok"})
				}
			}
		}
	}
}

// passedBy: records that are no lines.
func passedBy() map[string]impl.Rec {
	all := map[string]impl.Rec{
		"no line, no numbers":     {Kind: 2},
		"the last Kind":           {Kind: 100, Nums: lineRec("must 2").Nums},
		"a number below 0":        {Kind: 1, Nums: []int64{-1}},
		"a number far below 0":    {Kind: 1, Nums: []int64{-impl.MaxNum}},
		"256":                     {Kind: 1, Nums: []int64{256}},
		"far above 255":           {Kind: 1, Nums: []int64{impl.MaxNum}},
		"256 at its end":          {Kind: 1, Nums: append(lineRec("must 2").Nums, 256)},
		"-1 at its end":           {Kind: 1, Nums: append(lineRec("must 2").Nums, -1)},
		"256 ahead":               {Kind: 1, Nums: append([]int64{256}, lineRec("must 2").Nums...)},
		"-1 ahead":                {Kind: 1, Nums: append([]int64{-1}, lineRec("must 2").Nums...)},
		"256 more at each":        {Kind: 1, Nums: lineRec("must 2").Nums},
		"MaxNums, the last is -1": {Kind: 1, Nums: append(manyNums(impl.MaxNums-1, 50), -1)},
	}
	all["256 more at each"].Nums[0] += 256
	for _, kind := range []int64{2, 3, 10, 99, 82} {
		all[fmt.Sprint("Kind ", kind)] = impl.Rec{Kind: kind, Nums: lineRec("must 2").Nums}
	}
	return all
}

// oddLines: records that are lines, whatever the engine says of them.
func oddLines() map[string]string {
	return map[string]string{
		"no numbers":     "",
		"255":            "\xff",
		"0":              "\x00",
		"128":            "\x80",
		"255 at its end": "must 2\xff",
		"MaxNums of 255": strings.Repeat("\xff", 60),
		"a rune":         "é日",
		"a line feed":    "must 2\n",
		"no line":        "x",
		"refused":        "must 9",
		"asks":           "needs",
		"taken":          "must 2",
	}
}

func TestLogOfOtherRecords(t *testing.T) {
	t.Parallel()
	first, last := recordsOf("station 1 10 2 3", "station 2 5 2 4"), recordsOf("must 1")
	for what, r := range passedBy() {
		d := impl.Disk{Safe: first + bytesByHand(r) + last + bytesByHand(r)}
		wantStands(t, what, d, []string{"station 1 10 2 3", "station 2 5 2 4", "must 1"}, d)
		wantLogDo(t, what, d, "must 2", impl.LogOut{Disk: impl.Disk{Safe: d.Safe + recordsOf("must 2")}, Reply: "ok"})
		wantLogDo(t, what, d, "must 1", impl.LogOut{Disk: d, Code: impl.ErrForm})
		wantByHand(t, what, d, someTyped()...)
		wantStands(t, what+", alone", impl.Disk{Loose: []string{bytesByHand(r)}}, nil, impl.Disk{Safe: bytesByHand(r)})
	}
	for what, line := range oddLines() {
		d := impl.Disk{Safe: first + recordsOf(line) + last + recordsOf(line)}
		wantStands(t, what, d, []string{"station 1 10 2 3", "station 2 5 2 4", line, "must 1", line}, d)
		wantByHand(t, what, d, someTyped()...)
		wantLogDo(t, what, d, "must 1", impl.LogOut{Disk: d, Code: impl.ErrForm})
		wantStands(t, what+", alone", impl.Disk{Safe: recordsOf(line)}, []string{line}, impl.Disk{Safe: recordsOf(line)})
	}
}

// longLog: a log of so many lines, all of which were taken: a long auction with rounds to come.
func longLog(count int) []string {
	lines := []string{"station 5 10 2 3", "open 1000000 1 100 0 2 3"}
	for len(lines) < count {
		lines = append(lines, "round 5")
	}
	return lines[:count]
}

// fullLog: the same with lines that ask and that are refused on the disk, which are lines, too.
func fullLog(count int) []string {
	lines := longLog(count)
	for at := 2; at < count; at++ {
		lines[at] = []string{"round 5", "needs", "x", "", "must 5"}[at%5]
	}
	return lines
}

func TestLogOfMaxListLines(t *testing.T) {
	t.Parallel()
	for what, list := range map[string]func(int) []string{"taken": longLog, "taken or not": fullLog} {
		for _, count := range []int{impl.MaxList - 1, impl.MaxList, impl.MaxList + 1, impl.MaxList + 30} {
			what := fmt.Sprintf("%d lines, %s", count, what)
			lines := list(count)
			first := lines[:min(count, impl.MaxList)]
			text := recordsOf(lines...)
			for where, d := range map[string]impl.Disk{"safe": {Safe: text}, "loose": {Safe: text[:4000], Loose: []string{text[4000:4001], text[4001:]}}} {
				what := what + ", " + where
				wantStands(t, what, d, first, impl.Disk{Safe: text})
				price := impl.EngineEnd(first).Stage.Clock.Price
				want, torn := impl.LogOut{Disk: d, Code: impl.ErrFull}, d
				if count < impl.MaxList {
					want = impl.LogOut{Disk: impl.Disk{Safe: text + recordsOf("round 5")}, Reply: fmt.Sprint("active 1 price ", price-1)}
					torn = impl.Disk{Safe: d.Safe + (strings.Join(d.Loose, "") + recordsOf("round 5"))[:1]}
				}
				wantLogDo(t, what, d, "round 5", want)
				sameDisk(t, what+", torn", impl.LogTorn(d, "round 5", 1), torn)
				wantLogDo(t, what, d, "needs", impl.LogOut{Disk: d, Reply: fmt.Sprint("needs ", price*10)})
				for line, code := range map[string]int64{"must 5": impl.ErrState, "round 6": impl.ErrForm, "close 5": impl.ErrState, "bid 6": impl.ErrNone, "": impl.ErrSyntax, filled(61): impl.ErrSyntax} {
					wantLogDo(t, what, d, line, impl.LogOut{Disk: d, Code: code})
				}
				wantLogDo(t, what, d, filled(allBytes+1), impl.LogOut{Code: impl.ErrSize})
			}
		}
	}
}

// Only lines count: records of another kind, however many, leave room for MaxList of them.
func TestLogOfMaxListRecords(t *testing.T) {
	lines := longLog(impl.MaxList - 1)
	other := bytesByHand(impl.Rec{Kind: 2, Nums: []int64{1}})
	wrong := bytesByHand(impl.Rec{Kind: 1, Nums: []int64{256}})
	d := impl.Disk{Safe: other + recordsOf(lines[:9]...) + wrong + recordsOf(lines[9:]...) + strings.Repeat(other, 9)}
	wantStands(t, "one fewer", d, lines, d)
	more := impl.LogDo(d, "round 5")
	wantLog(t, "one fewer", more, impl.LogOut{Disk: impl.Disk{Safe: d.Safe + recordsOf("round 5")}, Reply: "active 1 price 999602"})
	wantLog(t, "as many", impl.LogDo(more.Disk, "round 5"), impl.LogOut{Disk: more.Disk, Code: impl.ErrFull})
	// A line that is taken from among many stands where it is to be.
	wantReplies(t, "as many", impl.LogLines(more.Disk), longLog(impl.MaxList))
	many := impl.Disk{Safe: strings.Repeat(other, 1000) + recordsOf("station 1 10 2")}
	wantStands(t, "a thousand others", many, []string{"station 1 10 2"}, many)
	wantLogDo(t, "a thousand others", many, "must 1", impl.LogOut{Disk: impl.Disk{Safe: many.Safe + recordsOf("must 1")}, Reply: "ok"})
}

// recordsOfSize: records that are no lines, of that many bytes together.
func recordsOfSize(size int) string {
	text := ""
	for size > 200 {
		next := bytesByHand(impl.Rec{Kind: 2, Nums: manyNums(52, 7)})
		text += next
		size -= len(next)
	}
	for size > 68 {
		next := bytesByHand(impl.Rec{Kind: 3, Nums: manyNums(22, 7)})
		text += next
		size -= len(next)
	}
	return text + bytesByHand(impl.Rec{Kind: 4, Nums: manyNums(size-8, 7)})
}

// A disk so full that the record of a line just fits, and one byte fuller.
func TestLogThatIsNearlyFull(t *testing.T) {
	t.Parallel()
	ahead := recordsOf("station 1 10 2 3", "station 2 5 2 4")
	for _, line := range []string{"must 1", "same 1 2", "open 1000000 1000000 300 1000000000000 46 47 48 49 50 51", "station 999 1000 44 45 46 47 48 49 50 51"} {
		room := allBytes - len(ahead) - len(recordsOf(line))
		for _, size := range []int{room - 1, room, room + 1, room + 2, room + len(recordsOf(line)) - 1, room + len(recordsOf(line))} {
			records, bytes := recordsOfSize(size), filled(size)
			if len(records) != size {
				t.Fatalf("%d bytes of %d", len(records), size)
			}
			for what, d := range map[string]impl.Disk{
				"records, safe":    {Safe: ahead + records},
				"records, loose":   {Safe: ahead, Loose: []string{records[:7], records[7:]}},
				"records, all":     {Loose: []string{ahead + records}},
				"no records, safe": {Safe: ahead + bytes},
				"both":             {Safe: ahead[:3], Loose: []string{ahead[3:], bytes}},
			} {
				what := fmt.Sprintf("%d bytes for %q, %s", size-room, line, what)
				want := impl.LogOut{Disk: d, Code: impl.ErrFull}
				if size <= room {
					want = impl.LogOut{Disk: impl.Disk{Safe: textByHand(d) + recordsOf(line)}, Reply: impl.EngineDo(impl.LogEngine(d), line).Reply}
				}
				wantLogDo(t, what, d, line, want)
				for _, keep := range []int64{-1, 0, 1, allBytes} {
					torn := impl.LogTorn(d, line, keep)
					sameDisk(t, what, torn, tornByHand(d, line, keep))
					if size > room {
						sameDisk(t, what, torn, d)
					}
				}
				wantLogDo(t, what, d, "must 9", impl.LogOut{Disk: d, Code: impl.ErrNone})
				wantLogDo(t, what, d, "", impl.LogOut{Disk: d, Code: impl.ErrSyntax})
				wantLogDo(t, what, d, "needs", impl.LogOut{Disk: d, Code: impl.ErrState})
				wantLogDo(t, what, d, filled(allBytes+1), impl.LogOut{Code: impl.ErrSize})
			}
		}
	}
}

// One that asks is answered on a disk on which no byte more could stand.
func TestLogThatIsFullIsAsked(t *testing.T) {
	text := recordsOf("station 5 10 2 3", "open 10 1 100 0 2 3")
	d := impl.Disk{Safe: text, Loose: []string{recordsOfSize(allBytes - len(text))}}
	for line, reply := range map[string]string{"needs": "needs 100", "total": "total 100", "bid 5": "state 1 price 100", "channel 5": "channel 0"} {
		wantLogDo(t, "full", d, line, impl.LogOut{Disk: d, Reply: reply})
		sameDisk(t, "full, torn", impl.LogTorn(d, line, 3), d)
	}
	wantLogDo(t, "full", d, "round 5", impl.LogOut{Disk: d, Code: impl.ErrFull})
	wantLogDo(t, "full", d, "round 6", impl.LogOut{Disk: d, Code: impl.ErrForm})
	wantLogDo(t, "full", d, "close 6", impl.LogOut{Disk: d, Code: impl.ErrState})
}

// With MaxWrites that are loose there is no room for a write, however few bytes they have.
func TestLogOfMaxWrites(t *testing.T) {
	t.Parallel()
	ahead := recordsOf("station 1 10 2 3", "station 2 5 2 4")
	for _, count := range []int{impl.MaxWrites - 2, impl.MaxWrites - 1, impl.MaxWrites} {
		other := bytesByHand(impl.Rec{Kind: 2})
		for what, d := range map[string]impl.Disk{
			"records": {Safe: ahead, Loose: writesOf(count, other)},
			"bytes":   {Safe: ahead, Loose: writesOf(count, "x")},
			"lines":   {Safe: ahead[:5], Loose: append(writesOf(count-1, other), ahead[5:])},
		} {
			what := fmt.Sprintf("%d writes, %s", count, what)
			wantByHand(t, what, d, someTyped()...)
			if what = what + ", a line"; len(impl.LogLines(d)) == 2 && count == impl.MaxWrites {
				wantLogDo(t, what, d, "must 1", impl.LogOut{Disk: d, Code: impl.ErrFull})
				sameDisk(t, what, impl.LogTorn(d, "must 1", 1), d)
				wantLogDo(t, what, d, "must 3", impl.LogOut{Disk: d, Code: impl.ErrNone})
				wantLogDo(t, what+", synced", impl.DiskSync(d), "must 1", impl.LogOut{Disk: impl.Disk{Safe: textByHand(d) + recordsOf("must 1")}, Reply: "ok"})
			} else if len(impl.LogLines(d)) == 2 {
				wantLogDo(t, what, d, "must 1", impl.LogOut{Disk: impl.Disk{Safe: textByHand(d) + recordsOf("must 1")}, Reply: "ok"})
			}
		}
	}
}

// What is loose is read as what is safe; it is synced with the line that is taken, and stays loose behind any other one.
func TestLogOfWhatIsLoose(t *testing.T) {
	t.Parallel()
	lines := twoLines("round 2")
	text := recordsOf(lines...)
	for at := range len(text) + 1 {
		for what, d := range map[string]impl.Disk{
			"two":        {Safe: text[:at], Loose: looseOf(text[at:])},
			"byte, rest": {Safe: text[:at], Loose: looseOf(text[at:min(at+1, len(text))], text[min(at+1, len(text)):])},
			"all":        {Loose: looseOf(text[:at], text[at:])},
		} {
			what := fmt.Sprintf("at %d, %s", at, what)
			wantStands(t, what, d, lines, impl.Disk{Safe: text})
			wantLogDo(t, what, d, "close 54", impl.LogOut{Disk: impl.Disk{Safe: text + recordsOf("close 54")}, Reply: "stage 1 active 1"})
			wantLogDo(t, what, d, "needs", impl.LogOut{Disk: d, Reply: "needs 55"})
			wantLogDo(t, what, d, "bid 3", impl.LogOut{Disk: d, Code: impl.ErrNone})
			wantLogDo(t, what, d, "round", impl.LogOut{Disk: d, Code: impl.ErrState})
			wantLogDo(t, what, d, "no line", impl.LogOut{Disk: d, Code: impl.ErrSyntax})
		}
	}
}

func TestLogOfTheLengthOfALine(t *testing.T) {
	most := "round 1000000000000 1000000000000 1000000000000 100000000000"
	more := "round 1000000000000 1000000000000 1000000000000 1000000000000"
	setUp := impl.Disk{Safe: recordsOf("station 5 10 2"), Loose: []string{recordsOf("must 5")}}
	opened := impl.LogRun([]string{"station 5 10 2", "open 10 1 100 0 2"}).Disk
	for _, c := range []struct {
		line   string
		size   int
		setUp  int64
		opened int64
	}{
		{"", 0, impl.ErrSyntax, impl.ErrSyntax},
		{" ", 1, impl.ErrSyntax, impl.ErrSyntax},
		{most, impl.MaxLine, impl.ErrState, impl.ErrForm},
		{more, impl.MaxLine + 1, impl.ErrSyntax, impl.ErrSyntax},
		{strings.Repeat("x", impl.MaxLine), impl.MaxLine, impl.ErrSyntax, impl.ErrSyntax},
		{"round 5" + strings.Repeat(" ", 53), impl.MaxLine, impl.ErrSyntax, impl.ErrSyntax},
		{"round 10" + strings.Repeat(" 1", 9996), impl.MaxBytes, impl.ErrSyntax, impl.ErrSyntax},
		{filled(impl.MaxBytes), impl.MaxBytes, impl.ErrSyntax, impl.ErrSyntax},
		{"round" + strings.Repeat(" 1", 9998), impl.MaxBytes + 1, impl.ErrSize, impl.ErrSize},
		{filled(3 * impl.MaxBytes), 3 * impl.MaxBytes, impl.ErrSize, impl.ErrSize},
	} {
		if len(c.line) != c.size {
			t.Fatalf("%.70q has %d bytes", c.line, len(c.line))
		}
		for _, want := range []impl.LogOut{{Disk: setUp, Code: c.setUp}, {Disk: opened, Code: c.opened}} {
			d := want.Disk
			// No disk is told beside ErrSize, nor by a call without a code.
			if want.Code == impl.ErrSize {
				want.Disk = impl.Disk{}
			}
			wantLogDo(t, "its length", d, c.line, want)
			for _, keep := range []int64{-1, 0, 3, allBytes} {
				sameDisk(t, "its length, torn", impl.LogTorn(d, c.line, keep), want.Disk)
			}
		}
		lines := []string{"station 5 10 2", c.line, "must 5"}
		wantLog(t, "in a run", impl.LogRun(lines), impl.LogOut{Disk: impl.Disk{Safe: recordsOf("station 5 10 2", "must 5")}, Reply: "ok"})
		wantEngine(t, "in a run", impl.LogEngine(impl.LogRun(lines).Disk), impl.EngineEnd(lines))
		wantLog(t, "as the last one", impl.LogRun(lines[:2]), impl.LogOut{Disk: impl.Disk{Safe: recordsOf("station 5 10 2")}})
		wantLog(t, "alone", impl.LogRun([]string{c.line}), impl.LogOut{})
		wantLog(t, "line by line", impl.LogRun(lines), logRunBy(lines, impl.LogDo))
	}
	// No line that is taken is longer than this one.
	longest := "open 1000000 1000000 300 1000000000000 46 47 48 49 50 51"
	d := impl.Disk{Safe: recordsOf("station 5 10 2")}
	wantLogDo(t, "the longest", d, longest, impl.LogOut{Disk: impl.Disk{Safe: d.Safe + recordsOf(longest)}, Reply: "active 1"})
}

// A list of more than MaxList lines is refused, whatever they are; of just as many all are taken.
func TestLogRunOfHowManyLines(t *testing.T) {
	size := impl.LogOut{Code: impl.ErrSize}
	for what, lines := range map[string][]string{"taken": longLog(impl.MaxList + 1), "taken or not": fullLog(impl.MaxList + 1), "empty": writesOf(impl.MaxList+1, ""), "too long": writesOf(impl.MaxList+1, filled(allBytes+1)), "ask": writesOf(impl.MaxList+1, "needs"), "many": writesOf(20000, "must 1")} {
		wantLog(t, what+", too many", impl.LogRun(lines), size)
		for _, count := range []int{impl.MaxList - 1, impl.MaxList} {
			list := lines[:count]
			run := impl.LogRun(list)
			wantReplies(t, what, impl.LogLines(run.Disk), changing(list))
			wantEngine(t, what, impl.LogEngine(run.Disk), impl.EngineEnd(list))
			told := impl.EngineRun(list)[count-1]
			if strings.HasPrefix(told, "error") {
				told = ""
			}
			wantLog(t, what, run, impl.LogOut{Disk: impl.Disk{Safe: recordsOf(changing(list)...)}, Reply: told})
		}
	}
	wantLog(t, "MaxList", impl.LogRun(longLog(impl.MaxList)), impl.LogOut{Disk: impl.Disk{Safe: recordsOf(longLog(impl.MaxList)...)}, Reply: "active 1 price 999602"})
}

// A run that fills its disk ahead of its end: what does not fit is refused, what is shorter may still be taken.
func TestLogRunOfMoreThanFits(t *testing.T) {
	t.Parallel()
	lines, stays := []string(nil), "round"
	for id := 100; id < 112; id++ {
		lines = append(lines, fmt.Sprint("station ", id, " 1000 44 45 46 47 48 49 50 51"))
		stays += fmt.Sprint(" ", id)
	}
	lines = append(lines, "open 1000000 1 300 0 51")
	for len(lines) < impl.MaxList-12 {
		lines = append(lines, stays)
	}
	lines = append(lines, "needs", "round 100 101", "round 100 101", "round 100", "round 100", "round", "round", "close 5", "close 12000000000", "needs", "total", "x")
	last, d, codes := impl.LogOut{}, impl.Disk{}, map[int64]int{}
	for at, line := range lines {
		// Up to where it gets full all lines are taken, so that only those behind are held one by one.
		if at < 290 {
			codes[impl.OK]++
			d = impl.Disk{Safe: d.Safe + recordsOf(line)}
			continue
		}
		last = impl.LogDo(d, line)
		codes[last.Code]++
		wantLog(t, fmt.Sprintf("line %d", at), last, logDoByHand(d, line))
		d = last.Disk
		if at%10 == 0 || at > 380 {
			wantLog(t, fmt.Sprintf("up to line %d", at), impl.LogRun(lines[:at+1]), impl.LogOut{Disk: d, Reply: last.Reply})
		}
	}
	if codes[impl.ErrFull] < 50 || codes[impl.OK] < 300 || len(d.Safe) < allBytes-20 {
		t.Errorf("the codes are %v, %d bytes", codes, len(d.Safe))
	}
}

// LogRun tells what LogDo tells, line by line, by hand, whatever the last line is.
func TestLogRunByHand(t *testing.T) {
	t.Parallel()
	random := rand.New(rand.NewSource(161))
	last := map[bool]int{}
	for range 40 {
		lines := anyLines(random, 1+random.Intn(40))
		lines = slices.Insert(lines, random.Intn(len(lines)+1), "", strings.Repeat("x", 61))
		if random.Intn(2) == 0 {
			lines = slices.Insert(lines, random.Intn(len(lines)+1), filled(allBytes+1))
		}
		for at := range len(lines) + 1 {
			what := fmt.Sprintf("%.60q", lines[:at])
			run := impl.LogRun(lines[:at])
			wantLog(t, what+", by hand", run, logRunBy(lines[:at], logDoByHand))
			wantLog(t, what+", line by line", run, logRunBy(lines[:at], impl.LogDo))
			last[run.Reply == ""]++
		}
	}
	if last[true] < 100 || last[false] < 100 {
		t.Errorf("the last lines are all of one kind: %v", last)
	}
}

// wrongLogs: wrongDisks, and logs on disks that are not right.
func wrongLogs() map[string]impl.Disk {
	all := wrongDisks()
	text := recordsOf(twoLines()...)
	all["a log and an empty write"] = impl.Disk{Safe: text, Loose: []string{""}}
	all["a loose log and an empty write"] = impl.Disk{Loose: []string{text, ""}}
	all["a log within empty writes"] = impl.Disk{Loose: []string{"", text, ""}}
	all["a log and a write too many"] = impl.Disk{Safe: text, Loose: writesOf(impl.MaxWrites+1, "x")}
	all["a log by a write too many"] = impl.Disk{Loose: append(writesOf(impl.MaxWrites, recordsOf("x")), text)}
	all["a log and a byte too many"] = impl.Disk{Safe: text + recordsOfSize(allBytes-len(text)) + "x"}
	all["a log and a loose byte too many"] = impl.Disk{Safe: text, Loose: []string{recordsOfSize(allBytes - len(text)), "x"}}
	all["a log and a record too many"] = impl.Disk{Safe: text + recordsOfSize(allBytes-len(text)), Loose: []string{recordsOf("needs")}}
	return all
}

// A disk that is not right is refused by that, ahead of what the line is; only one that is too long comes first.
func TestLogOfWrongDisks(t *testing.T) {
	t.Parallel()
	for what, d := range wrongLogs() {
		before := kept(d)
		wantReplies(t, what, impl.LogLines(d), nil)
		wantEngine(t, what, impl.LogEngine(d), impl.Engine{})
		sameDisk(t, what+", opened", impl.LogOpen(d), before)
		for _, line := range append(someTyped(), strings.Repeat("x", 60), strings.Repeat("x", 61), filled(allBytes)) {
			wantLogDo(t, what, d, line, impl.LogOut{Disk: before, Code: impl.ErrForm})
			for _, keep := range []int64{math.MinInt64, -1, 0, 1, 20, allBytes, math.MaxInt64} {
				sameDisk(t, what+", torn", impl.LogTorn(d, line, keep), before)
			}
		}
		for _, long := range []string{filled(allBytes + 1), "must 1" + strings.Repeat(" ", allBytes)} {
			wantLogDo(t, what, d, long, impl.LogOut{Code: impl.ErrSize})
			sameDisk(t, what+", torn", impl.LogTorn(d, long, 5), impl.Disk{})
		}
	}
	for what, d := range rightDisks() {
		wantByHand(t, what, d, append(someTyped(), filled(allBytes), filled(allBytes+1))...)
	}
}

// oddParts: bytes that are no record, records that are no lines, and odd lines, by their names in order.
func oddParts() []string {
	all := notRecords()
	for what, r := range passedBy() {
		all["passed by: "+what] = bytesByHand(r)
	}
	for what, line := range oddLines() {
		all["a line: "+what] = recordsOf(line)
	}
	parts := []string(nil)
	for _, what := range slices.Sorted(maps.Keys(all)) {
		parts = append(parts, all[what])
	}
	return parts
}

// anyDisk: records of lines with odd parts among them, safe or loose; now and then it breaks off, or is not right.
func anyDisk(random *rand.Rand) impl.Disk {
	parts, odd := []string(nil), oddParts()
	for _, line := range anyLines(random, random.Intn(40)) {
		parts = append(parts, recordsOf(line))
	}
	for range random.Intn(4) {
		parts = slices.Insert(parts, random.Intn(len(parts)+1), odd[random.Intn(len(odd))])
	}
	text := strings.Join(parts, "")
	if random.Intn(5) == 0 {
		text = text[:random.Intn(len(text)+1)]
	}
	if random.Intn(2) == 0 {
		return impl.Disk{Safe: text}
	}
	at := random.Intn(len(text) + 1)
	second := at + random.Intn(len(text)-at+1)
	d := impl.Disk{Safe: text[:at], Loose: looseOf(text[at:second], text[second:])}
	if random.Intn(6) == 0 {
		d.Loose = slices.Insert(d.Loose, random.Intn(len(d.Loose)+1), "")
	}
	return d
}

func TestLogOfAnyDiskByHand(t *testing.T) {
	t.Parallel()
	random := rand.New(rand.NewSource(162))
	counts := map[string]int{}
	for range 500 {
		d := anyDisk(random)
		e := impl.LogEngine(d)
		lines := []string{anyLine(random, e), anyLine(random, e)}
		wantByHand(t, fmt.Sprintf("%q", d), d, lines...)
		for _, line := range lines {
			out := impl.LogDo(d, line)
			counts[fmt.Sprint("code ", out.Code)]++
			if out.Code == impl.OK && out.Disk.Safe != d.Safe {
				counts["taken"]++
			}
		}
		counts[fmt.Sprint("opened ", e.Opened)]++
		counts[fmt.Sprint("right ", impl.DiskRight(d))]++
		counts[fmt.Sprint("loose ", len(d.Loose) > 0)]++
		counts[fmt.Sprint("whole ", len(textByHand(openByLog(d))) == len(textByHand(d)))]++
	}
	for _, kind := range []string{"code 0", "code 1", "code 3", "code 7", "code 8", "taken", "opened true", "opened false", "right true", "right false", "loose true", "loose false", "whole true", "whole false"} {
		if counts[kind] < 15 {
			t.Errorf("%s comes %d times: %v", kind, counts[kind], counts)
		}
	}
}

// logCalls: each call that answers a disk.
func logCalls(line string) map[string]func(impl.Disk) impl.Disk {
	return map[string]func(impl.Disk) impl.Disk{
		"LogDo":         func(d impl.Disk) impl.Disk { return impl.LogDo(d, line).Disk },
		"LogOpen":       impl.LogOpen,
		"LogTorn":       func(d impl.Disk) impl.Disk { return impl.LogTorn(d, line, 5) },
		"LogTorn, none": func(d impl.Disk) impl.Disk { return impl.LogTorn(d, line, -1) },
	}
}

func TestLogChangesAndSharesNothing(t *testing.T) {
	t.Parallel()
	random := rand.New(rand.NewSource(163))
	disks := []impl.Disk{}
	for range 150 {
		disks = append(disks, anyDisk(random))
	}
	for _, more := range []map[string]impl.Disk{rightDisks(), wrongLogs()} {
		for _, d := range more {
			disks = append(disks, d)
		}
	}
	for _, before := range disks {
		for _, line := range []string{"station 999 1 2", "must 1", "round", "needs", "x", filled(allBytes + 1)} {
			for name, call := range logCalls(line) {
				what := fmt.Sprintf("%s of %.60q", name, line)
				d, all := roomy(before)
				whole := slices.Clone(all)
				got := call(d)
				if d.Safe != before.Safe || !slices.Equal(all, whole) {
					t.Fatalf("%s changed its argument", what)
				}
				want := kept(got)
				spoil(got.Loose)
				if !slices.Equal(all, whole) {
					t.Fatalf("%s: its answer leads into its argument", what)
				}
				again := call(d)
				sameDisk(t, what+", once more", again, want)
				spoil(all)
				sameDisk(t, what+", its argument spoilt", again, want)
			}
		}
	}
}

// The lines and the engine of a log are new memory each time; the disk is only looked at.
func TestLogIsOnlyLookedAt(t *testing.T) {
	t.Parallel()
	random := rand.New(rand.NewSource(164))
	for range 100 {
		before := anyDisk(random)
		d, all := roomy(before)
		whole := slices.Clone(all)
		lines, e := slices.Clone(impl.LogLines(d)), keptEngine(impl.LogEngine(d))
		turned := heldInEngine(impl.LogEngine(d))
		slices.Reverse(turned)
		wantHeldApart(t, "the engine", heldInEngine(impl.LogEngine(d)))
		wantHeldApart(t, "the engine", turned)
		spoil(impl.LogLines(d))
		wantReplies(t, "again", impl.LogLines(d), lines)
		wantEngine(t, "again", impl.LogEngine(d), e)
		if d.Safe != before.Safe || !slices.Equal(all, whole) {
			t.Errorf("%q: it is changed", before)
		}
		told, led := impl.LogLines(d), impl.LogEngine(d)
		spoil(all)
		wantReplies(t, "its argument spoilt", told, lines)
		wantEngine(t, "its argument spoilt", led, e)
	}
}

// The lines of a run stay as they are, and may change behind it.
func TestLogRunIsNewMemory(t *testing.T) {
	random := rand.New(rand.NewSource(165))
	for range 60 {
		lines := slices.Grow(anyLines(random, 5+random.Intn(40)), 4)
		before := slices.Clone(lines[:cap(lines)])
		run := impl.LogRun(lines)
		want := impl.LogOut{Disk: kept(run.Disk), Reply: run.Reply, Code: run.Code}
		if !slices.Equal(lines[:cap(lines)], before) {
			t.Errorf("%q: the lines are changed", lines)
		}
		spoil(run.Disk.Loose)
		run = impl.LogRun(lines)
		spoil(lines)
		wantLog(t, "behind it", run, want)
	}
}

// Two logs led on from one do not see each other.
func TestLogsFromOneDisk(t *testing.T) {
	first := recordsOf("station 1 10 2 3")
	d := impl.Disk{Loose: []string{first[:4], first[4:]}}
	left, right := impl.LogDo(d, "must 1"), impl.LogDo(d, "station 2 5 2")
	wantLog(t, "left", left, impl.LogOut{Disk: impl.Disk{Safe: first + recordsOf("must 1")}, Reply: "ok"})
	wantLog(t, "right", right, impl.LogOut{Disk: impl.Disk{Safe: first + recordsOf("station 2 5 2")}, Reply: "ok"})
	sameDisk(t, "torn", impl.LogTorn(d, "must 1", 9), impl.Disk{Safe: (first + recordsOf("must 1"))[:9]})
	sameDisk(t, "both", d, impl.Disk{Loose: []string{first[:4], first[4:]}})
}

func TestLogKeepsNothing(t *testing.T) {
	random := rand.New(rand.NewSource(166))
	lines := twoLines("round 2", "close 54", "bid 2")
	run := impl.LogRun(lines)
	done, torn := impl.LogDo(run.Disk, "round"), impl.LogTorn(run.Disk, "round", 7)
	for range 100 {
		d := anyDisk(random)
		impl.LogDo(d, anyLine(random, impl.LogEngine(d)))
		impl.LogRun(anyLines(random, 10))
		impl.LogRun([]string{"station 9 9 9", "x"})
		impl.LogTorn(d, "station 9 9 9", 3)
		impl.LogDo(impl.Disk{Loose: []string{""}}, "needs")
		wantLog(t, "again", impl.LogRun(lines), run)
		wantLog(t, "again", impl.LogDo(run.Disk, "round"), done)
		sameDisk(t, "again", impl.LogTorn(run.Disk, "round", 7), torn)
		wantStands(t, "again", run.Disk, changing(lines), run.Disk)
	}
}

// A call in each of some goroutines at the same time answers what it answers alone, and none is left behind.
func TestLogAtTheSameTime(t *testing.T) {
	lines := twoLines("round 2", "close 54", "round 2", "bid 2", "round", "close 5")
	want := impl.LogRun(lines)
	before := runtime.NumGoroutine()
	told := make(chan impl.LogOut)
	for range 20 {
		go func() { told <- impl.LogRun(lines) }()
		go func() { told <- impl.LogDo(want.Disk, "needs") }()
	}
	for range 40 {
		got := <-told
		if got.Reply == "needs 5" {
			wantLog(t, "at the same time", got, impl.LogOut{Disk: want.Disk, Reply: "needs 5"})
		} else {
			wantLog(t, "at the same time", got, want)
		}
	}
	for range 100 {
		impl.LogRun(lines)
		impl.LogRun([]string{"x"})
		impl.LogTorn(want.Disk, "needs", 1)
	}
	if left := goroutinesBut(before); left > before {
		t.Errorf("%d goroutines are left, there were %d", left, before)
	}
}
