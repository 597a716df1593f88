package tests

import (
	"fmt"
	"math"
	"math/rand"
	"regexp"
	"slices"
	"strconv"
	"strings"
	"testing"

	"loop.example/g00144/impl"
)

// linesByHand: a line for each list, as the document puts it.
func linesByHand(lists [][]int64) string {
	text := []byte(nil)
	for _, list := range lists {
		for _, literal := range list {
			text = fmt.Append(text, literal, " ")
		}
		text = append(text, "0\n"...)
	}
	return string(text)
}

// cnfTextByHand: whether it is right, or too long, or not.
func cnfTextByHand(c impl.Cnf) string {
	return fmt.Sprintf("p cnf %d %d\n", c.Vars, len(c.Clauses)) + linesByHand(c.Clauses)
}

// lemmasRightByHand: what the document's chapter 8 says of the lists of LemmasText.
func lemmasRightByHand(lists [][]int64) bool {
	ok := len(lists) <= impl.MaxList
	for _, list := range lists {
		ok = ok && len(list) <= impl.MaxVars
		for _, x := range list {
			ok = ok && x != 0 && x >= -impl.MaxVars && x <= impl.MaxVars
		}
	}
	return ok
}

// unlessTooLong: the text, or none where it has more than MaxBytes bytes.
func unlessTooLong(text string) string {
	if len(text) > impl.MaxBytes {
		return ""
	}
	return text
}

var (
	headForm = regexp.MustCompile(`^p cnf ` + numberForm + ` ` + numberForm + `\n$`)
	listForm = regexp.MustCompile(`^((?:-?[1-9][0-9]{0,9} )*)0\n$`)
)

// listByHand: the literals of a line with its line feed.
func listByHand(line string) ([]int64, bool) {
	m := listForm.FindStringSubmatch(line)
	if m == nil {
		return nil, false
	}
	list := []int64(nil)
	for _, word := range strings.Fields(m[1]) {
		list = append(list, numberByHand(word))
	}
	return list, true
}

// linesWithFeeds: each line with its line feed, the last one without, if it has none; the empty text has no line.
func linesWithFeeds(text string) []string {
	lines := strings.SplitAfter(text, "\n")
	if last := len(lines) - 1; lines[last] == "" {
		return lines[:last]
	}
	return lines
}

func refusedAt(line int) impl.CnfOut {
	return impl.CnfOut{Line: int64(line), Code: impl.ErrSyntax}
}

// cnfReadByHand: what CnfRead is to tell of a text of up to MaxBytes bytes.
func cnfReadByHand(text string) impl.CnfOut {
	lines := linesWithFeeds(text)
	c, count := impl.Cnf{}, 0
	for i, line := range lines {
		if i == 0 {
			m := headForm.FindStringSubmatch(line)
			if m == nil || numberByHand(m[1]) > impl.MaxVars || numberByHand(m[2]) > impl.MaxClauses {
				return refusedAt(0)
			}
			c.Vars, count = numberByHand(m[1]), int(numberByHand(m[2]))
			continue
		}
		clause, ok := listByHand(line)
		if !ok || i > count || !cnfRightByHand(impl.Cnf{Vars: c.Vars, Clauses: [][]int64{clause}}) {
			return refusedAt(i)
		}
		c.Clauses = append(c.Clauses, clause)
	}
	if len(lines) < 1+count {
		return refusedAt(len(lines))
	}
	return impl.CnfOut{Cnf: c}
}

// lemmasReadByHand: what LemmasRead is to tell of a text of up to MaxBytes bytes.
func lemmasReadByHand(text string) impl.CnfOut {
	lists := [][]int64(nil)
	for i, line := range linesWithFeeds(text) {
		list, ok := listByHand(line)
		lists = append(lists, list)
		if !ok || !lemmasRightByHand(lists) {
			return refusedAt(i)
		}
	}
	return impl.CnfOut{Cnf: impl.Cnf{Clauses: lists}}
}

// wantCnfOut: an empty list and none are the same.
func wantCnfOut(t *testing.T, what string, got impl.CnfOut, want impl.CnfOut) {
	t.Helper()
	if got.Code != want.Code || got.Line != want.Line {
		t.Errorf("%.200s: got the code %d at line %d, want %d at %d", what, got.Code, got.Line, want.Code, want.Line)
	}
	wantCnf(t, what, got.Cnf, want.Cnf)
}

// wantReads asks both readings of a text, against those by hand.
func wantReads(t *testing.T, text string) {
	t.Helper()
	wantCnfOut(t, "clauses "+strconv.Quote(text), impl.CnfRead(text), cnfReadByHand(text))
	wantCnfOut(t, "lemmas "+strconv.Quote(text), impl.LemmasRead(text), lemmasReadByHand(text))
}

func wantText(t *testing.T, what string, got string, want string) {
	t.Helper()
	if got != want {
		t.Errorf("%s: got %.200q, want %.200q", what, got, want)
	}
}

// repeated: so many lists alike, each in memory of its own.
func repeated(count int, literals ...int64) [][]int64 {
	lists := [][]int64(nil)
	for range count {
		lists = append(lists, slices.Clone(literals))
	}
	return lists
}

// cnfOfSize: a right one whose text has just so many bytes, some thousands.
func cnfOfSize(size int) impl.Cnf {
	c := impl.Cnf{Vars: impl.MaxVars}
	for {
		left := size - len(cnfTextByHand(c))
		switch {
		case left == 0:
			return c
		case left > 200:
			c.Clauses = append(c.Clauses, countUp(-96, -81))
		case left%2 == 1:
			c.Clauses = append(c.Clauses, []int64{-1})
		default:
			c.Clauses = append(c.Clauses, nil)
		}
	}
}

// crowdOfSize: MaxClauses clauses, of which so many have a text with one byte more than 4.
func crowdOfSize(longer int) impl.Cnf {
	clauses := append(clausesOf(longer, -1), clausesOf(impl.MaxClauses-longer, 1)...)
	return impl.Cnf{Vars: impl.MaxVars, Clauses: clauses}
}

// lemmasOfSize: lists whose text has just so many bytes, some hundreds at least.
func lemmasOfSize(size int) [][]int64 {
	lists := [][]int64(nil)
	for {
		left := size - len(linesByHand(lists))
		switch {
		case left == 0:
			return lists
		case left > 450:
			lists = append(lists, countUp(-96, -1))
		case left%2 == 1:
			lists = append(lists, []int64{-1})
		case left > 60:
			lists = append(lists, slices.Concat(repeated(10, 96)...))
		default:
			lists = append(lists, nil)
		}
	}
}

// randomClause: a right one of so many variables.
func randomClause(random *rand.Rand, vars int64) []int64 {
	clause := []int64(nil)
	for _, v := range random.Perm(int(vars))[:random.Intn(1+min(int(vars), impl.MaxWide))] {
		clause = append(clause, int64(v+1)*(2*random.Int63n(2)-1))
	}
	return clause
}

// randomCnf: a right one of any kind, its text seldom too long.
func randomCnf(random *rand.Rand) impl.Cnf {
	c := impl.Cnf{Vars: random.Int63n(1 + random.Int63n(impl.MaxVars+1))}
	for range random.Intn(1 + random.Intn(60)) {
		c.Clauses = append(c.Clauses, randomClause(random, c.Vars))
	}
	return c
}

// randomLemmas: right ones, in which literals stand again and again.
func randomLemmas(random *rand.Rand) [][]int64 {
	lists := [][]int64(nil)
	greatest := 1 + random.Int63n(impl.MaxVars)
	for range random.Intn(1 + random.Intn(40)) {
		list := []int64(nil)
		for range random.Intn(1 + random.Intn(impl.MaxVars+1)) {
			list = append(list, (1+random.Int63n(greatest))*(2*random.Int63n(2)-1))
		}
		lists = append(lists, list)
	}
	return lists
}

// rightLemmas: at the edges of what may be told.
func rightLemmas() map[string][][]int64 {
	return map[string][][]int64{
		"no list":                     nil,
		"an empty list":               {},
		"a list of no literal":        {nil},
		"two of no literal":           {{}, {}},
		"an ordinary one":             {{1, -2}, {3}, {}},
		"one literal":                 {{1}},
		"minus one":                   {{-1}},
		"MaxVars as a literal":        {{impl.MaxVars}},
		"minus MaxVars as a literal":  {{-impl.MaxVars}},
		"both":                        {{-impl.MaxVars, impl.MaxVars}},
		"MaxVars literals":            {countUp(1, impl.MaxVars)},
		"MaxVars of minus ones":       {countUp(-impl.MaxVars, -1), {1}},
		"MaxVars literals of both":    {slices.Concat(countUp(49, impl.MaxVars), countUp(-48, -1))},
		"the same one twice":          {{5, 5}},
		"minus the same one twice":    {{-5, -5}},
		"one against the other":       {{5, -5}, {-5, 5}},
		"one again far behind":        {{5, 1, 2, 3, 5}},
		"MaxVars times the same one":  {slices.Concat(repeated(impl.MaxVars, 7)...)},
		"falling":                     {{9, 8, -7, 1}},
		"MaxList of no literal":       make([][]int64, impl.MaxList),
		"MaxList of one":              repeated(impl.MaxList, -96),
		"MaxList less one":            repeated(impl.MaxList-1, 1, 2),
		"just MaxBytes":               lemmasOfSize(impl.MaxBytes),
		"one byte less than MaxBytes": lemmasOfSize(impl.MaxBytes - 1),
	}
}

// wrongLemmas: each of them by one thing.
func wrongLemmas() map[string][][]int64 {
	return map[string][][]int64{
		"a literal of 0":                 {{0}},
		"a literal of 0 behind others":   {{1, 2}, {3, 0}},
		"a literal of 0 ahead of others": {{0, 1}},
		"one more than MaxVars":          {{impl.MaxVars + 1}},
		"minus one more":                 {{-impl.MaxVars - 1}},
		"one more in the last list":      {{1}, {}, {2, impl.MaxVars + 1}},
		"minus one more at last":         {{1}, {}, {2, -impl.MaxVars - 1}},
		"the least literal":              {{math.MinInt64}},
		"the least literal and 1":        {{-math.MaxInt64}},
		"the greatest literal":           {{1, math.MaxInt64}},
		"one literal too many":           {append(countUp(1, impl.MaxVars), 1)},
		"one too many in the last":       {{1}, append(countUp(-impl.MaxVars, -1), 1)},
		"one too many, alike":            {slices.Concat(repeated(impl.MaxVars+1, 7)...)},
		"one list too many":              make([][]int64, impl.MaxList+1),
		"one list of one too many":       repeated(impl.MaxList+1, 1),
		"many lists too many":            make([][]int64, 9000),
	}
}

func TestCnfText(t *testing.T) {
	for _, c := range []struct {
		cnf  impl.Cnf
		want string
	}{
		{impl.Cnf{}, "p cnf 0 0\n"},
		{impl.Cnf{Clauses: [][]int64{{}}}, "p cnf 0 1\n0\n"},
		{impl.Cnf{Clauses: [][]int64{nil, {}}}, "p cnf 0 2\n0\n0\n"},
		{impl.Cnf{Vars: 5}, "p cnf 5 0\n"},
		{impl.Cnf{Vars: 1, Clauses: [][]int64{{1}, {-1}}}, "p cnf 1 2\n1 0\n-1 0\n"},
		{impl.Cnf{Vars: 3, Clauses: [][]int64{{1, -2}, {}, {-3, 2, 1}}}, "p cnf 3 3\n1 -2 0\n0\n-3 2 1 0\n"},
		{impl.Cnf{Vars: impl.MaxVars}, "p cnf 96 0\n"},
		{impl.Cnf{Vars: impl.MaxVars, Clauses: [][]int64{{96, -95}, {-96}}}, "p cnf 96 2\n96 -95 0\n-96 0\n"},
		{impl.Cnf{Vars: 16, Clauses: [][]int64{countUp(1, 16)}}, "p cnf 16 1\n1 2 3 4 5 6 7 8 9 10 11 12 13 14 15 16 0\n"},
		{impl.Cnf{Vars: 10, Clauses: clausesOf(10, 10)}, "p cnf 10 10\n" + strings.Repeat("10 0\n", 10)},
	} {
		wantText(t, fmt.Sprint(c.cnf), impl.CnfText(c.cnf), c.want)
	}
	for what, c := range rightCnfs() {
		wantText(t, what, impl.CnfText(c), unlessTooLong(cnfTextByHand(c)))
	}
	for what, c := range wrongCnfs() {
		wantText(t, what, impl.CnfText(c), "")
	}
}

// Promise 12, of clauses.
func TestRightClausesComeBack(t *testing.T) {
	t.Parallel()
	all := rightCnfs()
	random := rand.New(rand.NewSource(12))
	for i := range 2000 {
		all[fmt.Sprint("random ", i)] = randomCnf(random)
		table := crowdedTable(random, 8)
		all[fmt.Sprint("of a table ", i)] = impl.CnfOf(table, int64(1+random.Intn(9)), someOf(random, idsByHand(table)))
	}
	all["just MaxBytes"] = cnfOfSize(impl.MaxBytes)
	all["MaxClauses in just MaxBytes"] = crowdOfSize(3986)
	long := 0
	for what, c := range all {
		text := impl.CnfText(c)
		if len(cnfTextByHand(c)) > impl.MaxBytes {
			long++
			wantText(t, what, text, "")
			continue
		}
		wantText(t, what, text, cnfTextByHand(c))
		got := impl.CnfRead(text)
		wantCnfOut(t, what, got, impl.CnfOut{Cnf: c})
		wantText(t, what, impl.CnfText(got.Cnf), text)
	}
	if long > len(all)/10 {
		t.Errorf("%d of the texts are too long", long)
	}
}

func TestClausesAtMaxBytes(t *testing.T) {
	t.Parallel()
	for what, both := range map[string][2]impl.Cnf{
		"wide clauses":      {cnfOfSize(impl.MaxBytes), cnfOfSize(impl.MaxBytes + 1)},
		"MaxClauses of one": {crowdOfSize(3986), crowdOfSize(3987)},
	} {
		for i, c := range both {
			if text := cnfTextByHand(c); len(text) != impl.MaxBytes+i || !impl.CnfRight(c) {
				t.Fatalf("%s: a text of %d bytes", what, len(text))
			}
		}
		fits, tooLong := cnfTextByHand(both[0]), cnfTextByHand(both[1])
		wantText(t, what, impl.CnfText(both[0]), fits)
		wantText(t, what+", one byte more", impl.CnfText(both[1]), "")
		wantCnfOut(t, what, impl.CnfRead(fits), impl.CnfOut{Cnf: both[0]})
		wantCnfOut(t, what+", one byte more", impl.CnfRead(tooLong), impl.CnfOut{Code: impl.ErrSize})
	}
	most := impl.Cnf{Vars: impl.MaxVars, Clauses: repeated(impl.MaxClauses, countUp(-96, -81)...)}
	wantText(t, "the longest there is", impl.CnfText(most), "")
}

func TestLemmasText(t *testing.T) {
	for _, c := range []struct {
		list [][]int64
		want string
	}{
		{nil, ""},
		{[][]int64{}, ""},
		{[][]int64{nil}, "0\n"},
		{[][]int64{{}, {}}, "0\n0\n"},
		{[][]int64{{1, -2}, {}}, "1 -2 0\n0\n"},
		{[][]int64{{96, -96}}, "96 -96 0\n"},
		{[][]int64{{5, 5}, {-5, 5, -5}}, "5 5 0\n-5 5 -5 0\n"},
		{repeated(impl.MaxList, 1), strings.Repeat("1 0\n", impl.MaxList)},
		{repeated(1, slices.Concat(repeated(impl.MaxVars, -9)...)...), strings.Repeat("-9 ", impl.MaxVars) + "0\n"},
	} {
		wantText(t, fmt.Sprint(c.list), impl.LemmasText(c.list), c.want)
	}
	for what, list := range rightLemmas() {
		if !lemmasRightByHand(list) {
			t.Errorf("%s: is not right by hand", what)
		}
		wantText(t, what, impl.LemmasText(list), linesByHand(list))
	}
	for what, list := range wrongLemmas() {
		if lemmasRightByHand(list) {
			t.Errorf("%s: is right by hand", what)
		}
		wantText(t, what, impl.LemmasText(list), "")
	}
}

// Promise 12, of lemmas.
func TestRightLemmasComeBack(t *testing.T) {
	all := rightLemmas()
	random := rand.New(rand.NewSource(1212))
	for i := range 2000 {
		all[fmt.Sprint("random ", i)] = randomLemmas(random)
	}
	for what, list := range all {
		text := impl.LemmasText(list)
		wantText(t, what, text, linesByHand(list))
		got := impl.LemmasRead(text)
		wantCnfOut(t, what, got, impl.CnfOut{Cnf: impl.Cnf{Clauses: list}})
		wantText(t, what, impl.LemmasText(got.Cnf.Clauses), text)
	}
}

func TestLemmasAtMaxBytes(t *testing.T) {
	fits, tooLong := lemmasOfSize(impl.MaxBytes), lemmasOfSize(impl.MaxBytes+1)
	for i, list := range [][][]int64{fits, tooLong} {
		if len(linesByHand(list)) != impl.MaxBytes+i || !lemmasRightByHand(list) {
			t.Fatalf("a text of %d bytes", len(linesByHand(list)))
		}
	}
	wantText(t, "just MaxBytes", impl.LemmasText(fits), linesByHand(fits))
	wantText(t, "one byte more", impl.LemmasText(tooLong), "")
	wantCnfOut(t, "just MaxBytes", impl.LemmasRead(linesByHand(fits)), impl.CnfOut{Cnf: impl.Cnf{Clauses: fits}})
	wantCnfOut(t, "one byte more", impl.LemmasRead(linesByHand(tooLong)), impl.CnfOut{Code: impl.ErrSize})
	most := repeated(impl.MaxList, countUp(-impl.MaxVars, -1)...)
	wantText(t, "the longest there is", impl.LemmasText(most), "")
	full := append(repeated(impl.MaxList-1, slices.Concat(repeated(12, -10)...)...), slices.Concat(repeated(12, 1)...))
	if text := linesByHand(full); len(text) > impl.MaxBytes || impl.LemmasText(full) != text {
		t.Errorf("MaxList lists in %d bytes are not told", len(text))
	}
}

func TestCnfReadOfItsFirstLine(t *testing.T) {
	for _, text := range []string{
		"", "\n", "\n\n", " ", " \n", "p", "p\n", "p \n", "p cnf", "p cnf\n", "p cnf \n", "p cnf 2", "p cnf 2\n", "p cnf 2 \n", "p cnf 2 0", "p cnf 2 0 \n",
		" p cnf 2 0\n", "p  cnf 2 0\n", "p cnf  2 0\n", "p cnf 2  0\n", "p cnf 2 0 0\n", "p cnf 2 0 1\n", "\np cnf 2 0\n", "p\tcnf 2 0\n", "p cnf\t2 0\n", "p cnf 2\t0\n",
		"p cnf 2 0\r\n", "p cnf 2 0\x00\n", "p cnf 2 0\xff\n", "p cnf 2 0\x00", "P cnf 2 0\n", "p CNF 2 0\n", "p cnfs 2 0\n", "q cnf 2 0\n", "cnf 2 0\n", "2 0\n", "0\n", "1 0\n", "pcnf 2 0\n", "p cnf2 0\n", "p cnf 20\n",
		"p cnf 02 0\n", "p cnf 2 00\n", "p cnf 00 0\n", "p cnf 2 01\n1 0\n", "p cnf 002 0\n", "p cnf -0 0\n", "p cnf 2 -0\n", "p cnf +2 0\n", "p cnf 2 +0\n", "p cnf 2 +1\n1 0\n",
		"p cnf -1 0\n", "p cnf 2 -1\n", "p cnf -2 0\n", "p cnf - 0\n", "p cnf 2 -\n", "p cnf --2 0\n", "p cnf 2- 0\n", "p cnf 2-1 0\n", "p cnf x 0\n", "p cnf 2 x\n", "p cnf 2x 0\n", "p cnf 2 0x0\n", "p cnf 1.0 0\n", "p cnf 1e1 0\n", "p cnf 1_0 0\n",
		"p cnf ٢ 0\n", "p cnf 2 ٠\n", "p cnf 97 0\n", "p cnf 100 0\n", "p cnf 4000 0\n", "p cnf 4001 0\n", "p cnf 2 4001\n", "p cnf 2 4001\n1 0\n", "p cnf 2 10000\n", "p cnf 2 00001\n1 0\n",
		"p cnf 9223372036854775807 0\n", "p cnf 9223372036854775808 0\n", "p cnf 18446744073709551616 0\n", "p cnf 18446744073709551618 0\n", "p cnf 2 18446744073709551616\n", "p cnf 2 18446744073709551617\n1 0\n",
		"p cnf -18446744073709551614 0\n", "p cnf 2 -18446744073709551615\n1 0\n", "p cnf 4294967298 0\n", "p cnf 2 4294967297\n1 0\n", "p cnf 2 65537\n1 0\n", "p cnf 258 0\n",
		"c a word\np cnf 2 0\n", "1 0\np cnf 2 1\n", "p cnf 97 1\n1 0\nx\n", "p cnf 1", "p cnf 2 1 1 0\n", "p cnf 0 0 \n0", "p cnf 2 4001\n" + strings.Repeat("0\n", 4001), "p cnf 2 " + strings.Repeat("0", 300) + "\n", "p cnf " + strings.Repeat("9", 300) + " 0\n",
	} {
		wantCnfOut(t, strconv.Quote(text), impl.CnfRead(text), refusedAt(0))
		wantReads(t, text)
	}
	for text, want := range map[string]impl.Cnf{
		"p cnf 0 0\n":    {},
		"p cnf 96 0\n":   {Vars: 96},
		"p cnf 9 0\n":    {Vars: 9},
		"p cnf 10 0\n":   {Vars: 10},
		"p cnf 0 1\n0\n": {Clauses: [][]int64{nil}},
		"p cnf 2 10\n" + strings.Repeat("0\n", 10):     {Vars: 2, Clauses: make([][]int64, 10)},
		"p cnf 0 4000\n" + strings.Repeat("0\n", 4000): {Clauses: make([][]int64, 4000)},
	} {
		wantCnfOut(t, strconv.Quote(text), impl.CnfRead(text), impl.CnfOut{Cnf: want})
		wantReads(t, text)
	}
}

// wrongLists: lines, or what is left of one at a text's end, that are no list of literals anywhere.
func wrongLists() []string {
	return []string{
		"\n", " \n", "  \n", " 0\n", "0 \n", "0  \n", "1\n", "-1\n", "1 2\n", "1 \n", "1 0 \n", " 1 0\n", "1  0\n", "1  2 0\n", "1 2  0\n", "  1 0\n", "\t1 0\n", "1\t0\n", "1 0\t\n",
		"0 0\n", "0 1\n", "0 1 0\n", "1 0 0\n", "1 0 2 0\n", "1 0 2\n", "0 0 0\n", "1 0\r\n", "0\r\n", "\r\n", "0\x00\n", "\x000\n", "1 \x00 0\n", "1\xff 0\n", "1 é 0\n", "1\u00a00\n", "٢ 0\n",
		"01 0\n", "-01 0\n", "001 0\n", "1 02 0\n", "1 00\n", "00\n", "000\n", "1 -00\n", "-0\n", "1 -0\n", "-0 0\n", "1 -0 0\n", "+1 0\n", "1 +2 0\n", "+0\n", "1 +0\n", "-+1 0\n", "+-1 0\n", "--1 0\n", "-\n", "- 0\n", "1 - 0\n", "- 1 0\n", "1- 0\n", "1-2 0\n", "1 0-\n",
		"x\n", "x 0\n", "1 x 0\n", "1x 0\n", "x1 0\n", "1 0 x\n", "1 0x\n", "0x1 0\n", "1.0 0\n", "1e0 0\n", "1_0 0\n", "1,2 0\n", "a 0\n", "one 0\n", "c 0\n", "p cnf 2 1\n", "p 1 0\n", ": 0\n", "/ 0\n",
		"97 0\n", "-97 0\n", "1 97 0\n", "-97 1 0\n", "100 0\n", "-100 0\n", "960 0\n", "4000 0\n", "4001 0\n", "-4001 0\n", "256 0\n", "257 0\n", "65537 0\n", "4294967297 0\n", "-4294967295 0\n",
		"9223372036854775807 0\n", "9223372036854775808 0\n", "-9223372036854775808 0\n", "-9223372036854775807 0\n", "18446744073709551615 0\n", "18446744073709551616 0\n", "18446744073709551617 0\n", "-18446744073709551617 0\n", "-18446744073709551615 0\n", "1 18446744073709551616\n",
		"340282366920938463463374607431768211457 0\n", strings.Repeat("1", 500) + " 0\n", strings.Repeat("0", 500) + "\n", strings.Repeat("0", 500) + "1 0\n", "-" + strings.Repeat("9", 500) + " 0\n",
		strings.Repeat("1 ", 97) + "0\n", strings.Repeat("-96 ", 97) + "0\n", strings.Repeat("1 ", 500) + "0\n",
		"0", "1 0", "1", "-", "1 ", " ", "-1 2 0", "x", "\x00", "00",
	}
}

// wrongClauses: lines that are lemmas, but clauses of no right Cnf of three variables.
func wrongClauses() []string {
	return []string{
		"1 1 0\n", "-1 -1 0\n", "1 -1 0\n", "-1 1 0\n", "3 1 3 0\n", "-3 1 3 0\n", "1 2 3 1 0\n", "4 0\n", "-4 0\n", "1 4 0\n", "-4 1 0\n", "96 0\n", "-96 0\n", "1 2 3 4 0\n",
		strings.Repeat("1 ", 17) + "0\n", strings.Repeat("2 ", 96) + "0\n",
	}
}

func TestCnfReadNamesTheLine(t *testing.T) {
	for _, wrong := range append(wrongLists(), wrongClauses()...) {
		for _, c := range []struct {
			ahead  string
			behind string
			line   int
		}{
			{"p cnf 3 1\n", "", 1},
			{"p cnf 3 3\n", "", 1},
			{"p cnf 3 2\n", "1 0\n", 1},
			{"p cnf 3 3\n1 -2 0\n0\n", "", 3},
			{"p cnf 3 4\n1 -2 0\n0\n", "3 0\n", 3},
			{"p cnf 3 2\n1 -2 0\n0\n", "", 3},
			{"p cnf 3 0\n", "", 1},
			{"p cnf 3 4\n1 -2 0\n", "x\nx", 2},
		} {
			if c.behind != "" && !strings.HasSuffix(wrong, "\n") {
				continue
			}
			text := c.ahead + wrong + c.behind
			wantCnfOut(t, strconv.Quote(text), impl.CnfRead(text), refusedAt(c.line))
			wantCnfOut(t, strconv.Quote(text)+" by hand", cnfReadByHand(text), refusedAt(c.line))
		}
	}
	for text, line := range map[string]int{
		"p cnf 0 1\n1 0\n":       1,
		"p cnf 0 1\n-1 0\n":      1,
		"p cnf 2 1\n3 0\n":       1,
		"p cnf 2 2\n2 0\n-3 0\n": 2,
		"p cnf 95 1\n96 0\n":     1,
		"p cnf 96 1\n97 0\n":     1,
		"p cnf 96 1\n-97 0\n":    1,
		"p cnf 96 2\n0\n" + linesByHand([][]int64{countUp(1, 17)}):          2,
		"p cnf 96 1\n" + linesByHand([][]int64{countUp(-96, -80)}):          1,
		"p cnf 96 1\n" + linesByHand([][]int64{append(countUp(1, 15), -1)}): 1,
	} {
		wantCnfOut(t, strconv.Quote(text), impl.CnfRead(text), refusedAt(line))
	}
	wide := [][]int64{countUp(1, 16), countUp(-96, -81)}
	wantCnfOut(t, "MaxWide", impl.CnfRead("p cnf 96 2\n"+linesByHand(wide)), impl.CnfOut{Cnf: impl.Cnf{Vars: 96, Clauses: wide}})
}

func TestCnfReadOfTooManyAndTooFew(t *testing.T) {
	for _, c := range []struct {
		text string
		line int
	}{
		{"p cnf 2 1\n", 1},
		{"p cnf 2 2\n", 1},
		{"p cnf 2 2\n1 0\n", 2},
		{"p cnf 2 3\n1 0\n0\n", 3},
		{"p cnf 0 4000\n", 1},
		{"p cnf 2 0\n0\n", 1},
		{"p cnf 2 0\n1 0\n2 0\n", 1},
		{"p cnf 2 1\n1 0\n2 0\n", 2},
		{"p cnf 2 1\n1 0\n2 0\n0\n", 2},
		{"p cnf 2 1\n1 0\n\n", 2},
		{"p cnf 2 1\n1 0\n ", 2},
		{"p cnf 2 1\n1 0\n0", 2},
		{"p cnf 2 1\n1 0\nx\n", 2},
		{"p cnf 2 0\n\n", 1},
		{"p cnf 2 0\np cnf 2 0\n", 1},
		{"p cnf 2 1\n1 0\np cnf 2 1\n", 2},
		// A last line that has no line feed is there, and is the one that is none.
		{"p cnf 2 3\n1 0\n2 0", 2},
		{"p cnf 2 2\n1 0\n2 0", 2},
		{"p cnf 2 1\n1 0", 1},
		{"p cnf 2 0\n1 0", 1},
		// Of two faults the first line is told.
		{"p cnf 2 3\n1 0\n3 0\n", 2},
		{"p cnf 2 1\n3 0\n1 0\n", 1},
		{"p cnf 2 1\n1 1 0\n1 0", 1},
		{"p cnf 0 4000\n" + strings.Repeat("0\n", 3999), 4000},
		{"p cnf 0 4000\n" + strings.Repeat("0\n", 4001), 4001},
		{"p cnf 0 4000\n" + strings.Repeat("0\n", 3999) + "0", 4000},
		{"p cnf 0 3999\n" + strings.Repeat("0\n", 4000), 4000},
	} {
		wantCnfOut(t, strconv.Quote(c.text), impl.CnfRead(c.text), refusedAt(c.line))
		wantReads(t, c.text)
	}
	for count := range 13 {
		for said := range 13 {
			text := fmt.Sprintf("p cnf 5 %d\n", said) + strings.Repeat("-5 4 0\n", count)
			want := impl.CnfOut{Cnf: impl.Cnf{Vars: 5, Clauses: repeated(count, -5, 4)}}
			if count != said {
				want = refusedAt(1 + min(count, said))
			}
			wantCnfOut(t, strconv.Quote(text), impl.CnfRead(text), want)
		}
	}
}

func TestLemmasReadNamesTheLine(t *testing.T) {
	wantCnfOut(t, "the empty text", impl.LemmasRead(""), impl.CnfOut{})
	for _, wrong := range wrongLists() {
		for _, c := range []struct {
			ahead  string
			behind string
			line   int
		}{
			{"", "", 0},
			{"", "1 0\n", 0},
			{"0\n", "", 1},
			{"1 -2 0\n0\n", "", 2},
			{"1 -2 0\n0\n", "96 0\nx\n", 2},
			{"1 1 0\n", "x", 1},
			{strings.Repeat("0\n", impl.MaxList-1), "", impl.MaxList - 1},
			{strings.Repeat("0\n", impl.MaxList), "", impl.MaxList},
		} {
			if c.behind != "" && !strings.HasSuffix(wrong, "\n") {
				continue
			}
			text := c.ahead + wrong + c.behind
			wantCnfOut(t, strconv.Quote(text), impl.LemmasRead(text), refusedAt(c.line))
			wantCnfOut(t, strconv.Quote(text)+" by hand", lemmasReadByHand(text), refusedAt(c.line))
		}
	}
	for _, line := range wrongClauses() {
		list, _ := listByHand(line)
		wantCnfOut(t, line, impl.LemmasRead("0\n"+line), impl.CnfOut{Cnf: impl.Cnf{Clauses: [][]int64{nil, list}}})
	}
}

func TestLemmasReadAtItsEdges(t *testing.T) {
	for what, list := range wrongLemmas() {
		text := linesByHand(list)
		want := lemmasReadByHand(text)
		if want.Code != impl.ErrSyntax {
			t.Fatalf("%s: read by hand", what)
		}
		wantCnfOut(t, what, impl.LemmasRead(text), want)
	}
	for more := range 5 {
		text := strings.Repeat("1 0\n", impl.MaxList+more)
		want := impl.CnfOut{Cnf: impl.Cnf{Clauses: repeated(impl.MaxList, 1)}}
		if more > 0 {
			want = refusedAt(impl.MaxList)
		}
		wantCnfOut(t, fmt.Sprint(more, " more than MaxList"), impl.LemmasRead(text), want)
	}
	wantCnfOut(t, "a fault ahead of one too many", impl.LemmasRead("97 0\n"+strings.Repeat("0\n", impl.MaxList)), refusedAt(0))
	wantCnfOut(t, "MaxList, the last without its end", impl.LemmasRead(strings.Repeat("0\n", impl.MaxList-1)+"0"), refusedAt(impl.MaxList-1))
	for _, literal := range []int64{-98, -97, -96, -95, -1, 0, 1, 95, 96, 97, 98} {
		text := fmt.Sprintf("%d 0\n", literal)
		want := impl.CnfOut{Cnf: impl.Cnf{Clauses: [][]int64{{literal}}}}
		if literal == 0 || literal < -96 || literal > 96 {
			want = refusedAt(0)
		}
		wantCnfOut(t, text, impl.LemmasRead(text), want)
	}
	for _, count := range []int{0, 1, 95, 96, 97, 98} {
		text := "1 0\n" + strings.Repeat("-96 ", count) + "0\n"
		want := impl.CnfOut{Cnf: impl.Cnf{Clauses: [][]int64{{1}, slices.Concat(repeated(count, -96)...)}}}
		if count > impl.MaxVars {
			want = refusedAt(1)
		}
		wantCnfOut(t, text, impl.LemmasRead(text), want)
	}
}

func TestTextsOfWrongClausesAreRefused(t *testing.T) {
	for what, c := range wrongCnfs() {
		text := cnfTextByHand(c)
		if len(text) > impl.MaxBytes {
			continue
		}
		want := cnfReadByHand(text)
		if want.Code != impl.ErrSyntax {
			t.Fatalf("%s: read by hand", what)
		}
		wantCnfOut(t, what, impl.CnfRead(text), want)
	}
}

func TestTextsOfClausesThatAreTooLong(t *testing.T) {
	right := "p cnf 3 2\n1 -2 0\n3 0\n"
	for what, text := range map[string]string{
		"a right text and more":   right + strings.Repeat("x", impl.MaxBytes+1-len(right)),
		"line feeds":              strings.Repeat("\n", impl.MaxBytes+1),
		"noughts and line feeds":  strings.Repeat("0\n", impl.MaxBytes/2+1),
		"one line":                "p cnf 96 1\n" + strings.Repeat("1 ", impl.MaxBytes/2) + "0\n",
		"digits":                  strings.Repeat("1", impl.MaxBytes+1),
		"runes of more bytes":     strings.Repeat("é", impl.MaxBytes/2+1),
		"a fault ahead, too":      "x\n" + strings.Repeat("y", 3*impl.MaxBytes),
		"a first line, then much": "p cnf 0 4000\n" + strings.Repeat("0\n", 4000) + strings.Repeat(" ", impl.MaxBytes),
	} {
		if len(text) <= impl.MaxBytes {
			t.Fatalf("%s: only %d bytes", what, len(text))
		}
		wantCnfOut(t, what, impl.CnfRead(text), impl.CnfOut{Code: impl.ErrSize})
		wantCnfOut(t, what, impl.LemmasRead(text), impl.CnfOut{Code: impl.ErrSize})
	}
	for _, text := range []string{
		right + strings.Repeat("x", impl.MaxBytes-len(right)),
		right + strings.Repeat("\n", impl.MaxBytes-len(right)),
		strings.Repeat("\n", impl.MaxBytes),
		strings.Repeat("0\n", impl.MaxBytes/2),
		strings.Repeat("1", impl.MaxBytes),
		strings.Repeat("0", impl.MaxBytes),
		strings.Repeat("1 ", impl.MaxBytes/2-1) + "0\n",
		"p cnf " + strings.Repeat("0", impl.MaxBytes-9) + " 0\n",
		"p cnf 96 1\n" + strings.Repeat("1 ", (impl.MaxBytes-13)/2) + "0\n",
	} {
		if len(text) > impl.MaxBytes {
			t.Fatalf("%.20q: %d bytes", text, len(text))
		}
		wantReads(t, text)
	}
}

func TestClausesBreakOffAtEachByte(t *testing.T) {
	for _, text := range []string{"p cnf 12 4\n1 -2 0\n0\n-12 3 11 0\n10 0\n", "p cnf 0 0\n", "p cnf 96 1\n-96 95 0\n", "1 -2 0\n0\n-12 3 11 -12 0\n96 0\n"} {
		for size := range len(text) {
			part := text[:size]
			wantReads(t, part)
			if strings.HasPrefix(text, "p") {
				wantCnfOut(t, strconv.Quote(part), impl.CnfRead(part), refusedAt(strings.Count(part, "\n")))
			}
		}
	}
}

func TestClausesWithOneByteOther(t *testing.T) {
	others := []string{"", " ", "\n", "0", "1", "3", "9", "-", "+", "p", "\x00", "\xff", "é", "\r", "\t", "  ", "\n\n", " 0\n", "0\n", "-1", "96", "97"}
	for _, text := range []string{"p cnf 12 4\n1 -2 0\n0\n-12 3 11 0\n10 0\n", "1 -2 0\n0\n-12 3 11 -12 0\n96 0\n"} {
		for at := range len(text) {
			for _, other := range others {
				wantReads(t, text[:at]+other+text[at+1:])
				wantReads(t, text[:at]+other+text[at:])
			}
		}
	}
}

func TestClausesReadByHand(t *testing.T) {
	t.Parallel()
	random := rand.New(rand.NewSource(78))
	words := []string{"0", "0", "1", "2", "-1", "-2", "3", "-3", "96", "97", "00", "-0", "+1", "01", "", "x", "-"}
	read := map[bool]int{}
	for range 30000 {
		text := ""
		if random.Intn(3) > 0 {
			text = fmt.Sprintf("p cnf %d %d\n", random.Intn(4), random.Intn(3))
		}
		for range random.Intn(4) {
			few := words[:2+random.Intn(len(words)-1)]
			for range random.Intn(3) {
				text += few[random.Intn(len(few))] + " "
			}
			text += "0\n"
		}
		if random.Intn(8) == 0 {
			text = text[:random.Intn(len(text)+1)]
		}
		wantReads(t, text)
		read[impl.CnfRead(text).Code == impl.OK]++
	}
	if read[true] < 1000 || read[false] < 1000 {
		t.Errorf("%d are read, %d refused", read[true], read[false])
	}
}

func TestClausesAreNotChangedByTheirTexts(t *testing.T) {
	random := rand.New(rand.NewSource(700))
	all := []impl.Cnf(nil)
	for range 300 {
		all = append(all, randomCnf(random), impl.Cnf{Vars: 96, Clauses: randomLemmas(random)})
	}
	for _, c := range rightCnfs() {
		all = append(all, c)
	}
	for _, c := range wrongCnfs() {
		all = append(all, c)
	}
	for _, lists := range rightLemmas() {
		all = append(all, impl.Cnf{Vars: 3, Clauses: lists})
	}
	for _, lists := range wrongLemmas() {
		all = append(all, impl.Cnf{Vars: 96, Clauses: lists})
	}
	for _, c := range all {
		own := roomyCnf(c)
		before := allOfCnf(own)
		first, second := impl.CnfText(own), impl.LemmasText(own.Clauses)
		if !slices.EqualFunc(allOfCnf(own), before, slices.Equal[[]int64]) || own.Vars != c.Vars {
			t.Errorf("%.200s: is changed", fmt.Sprint(c))
		}
		wantText(t, "again", impl.CnfText(own), first)
		wantText(t, "again", impl.LemmasText(own.Clauses), second)
	}
}

// spoilsApart spoils the lists of an answer, one after the other: none of the others changes with it.
func spoilsApart(t *testing.T, what string, got [][]int64, want [][]int64) {
	t.Helper()
	for i, list := range got {
		spoilNumbers(list)
		if !slices.EqualFunc(got[i+1:], want[i+1:], slices.Equal[[]int64]) {
			t.Fatalf("%s: the lists behind place %d are changed with it", what, i)
		}
	}
}

func TestListsOfOneTextShareNoMemory(t *testing.T) {
	random := rand.New(rand.NewSource(701))
	reads := map[string]func(string) impl.CnfOut{"clauses": impl.CnfRead, "lemmas": impl.LemmasRead}
	for range 400 {
		c, lists := randomCnf(random), randomLemmas(random)
		for what, text := range map[string]string{"clauses": impl.CnfText(c), "lemmas": impl.LemmasText(lists)} {
			read := reads[what]
			first, second, third := read(text), read(text), read(text)
			want := c.Clauses
			if what == "lemmas" {
				want = lists
			}
			spoilsApart(t, what, first.Cnf.Clauses, want)
			// From the last one on, too: one that is spoiled might reach ahead.
			slices.Reverse(second.Cnf.Clauses)
			back := slices.Clone(want)
			slices.Reverse(back)
			spoilsApart(t, what, second.Cnf.Clauses, back)
			clear(first.Cnf.Clauses[:cap(first.Cnf.Clauses)])
			if !slices.EqualFunc(third.Cnf.Clauses, want, slices.Equal[[]int64]) {
				t.Errorf("%s: two answers share memory", what)
			}
			wantCnfOut(t, what, read(text), third)
		}
	}
}
