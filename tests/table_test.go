package tests

import (
	"fmt"
	"maps"
	"math"
	"math/rand"
	"regexp"
	"slices"
	"strconv"
	"strings"
	"testing"

	"loop.example/g00144/impl"
)

// threeStations: an ordinary table, its Ids not next to each other.
func threeStations() impl.Table {
	return impl.Table{
		Stations: []impl.Station{
			{Id: 5, Score: 10, Domain: []int64{2, 3}},
			{Id: 12, Score: 1000, Domain: []int64{2, 14, 51}},
			{Id: 907, Score: 7, Domain: []int64{30}},
		},
		Pairs: []impl.Pair{{A: 5, B: 12, Kind: impl.PairSame}, {A: 5, B: 907, Kind: impl.PairBeside}, {A: 12, B: 907, Kind: impl.PairSame}},
	}
}

const threeText = "station 5 10 2 3\nstation 12 1000 2 14 51\nstation 907 7 30\nsame 5 12\nbeside 5 907\nsame 12 907\n"

// changed: an ordinary table behind a change.
func changed(change func(*impl.Table)) impl.Table {
	t := threeStations()
	change(&t)
	return t
}

// stationsOf: so many Stations, from Id 1 on.
func stationsOf(count int) []impl.Station {
	list := []impl.Station(nil)
	for i := range count {
		list = append(list, impl.Station{Id: int64(i + 1), Score: int64(i%1000 + 1), Domain: []int64{int64(2 + i%50)}})
	}
	return list
}

// pairsOf: the first Pairs of so many Stations, from Id 1 on.
func pairsOf(stations int, count int) []impl.Pair {
	list := []impl.Pair(nil)
	for a := 1; a <= stations; a++ {
		for b := a + 1; b <= stations && len(list) < count; b++ {
			list = append(list, impl.Pair{A: int64(a), B: int64(b), Kind: int64(1 + (a+b)%2)})
		}
	}
	return list
}

// channels: so many of them, rising from low on.
func channels(low int64, count int) []int64 {
	list := []int64(nil)
	for i := range count {
		list = append(list, low+int64(i))
	}
	return list
}

// oneStation: a table of one Station alone.
func oneStation(id int64, score int64, domain ...int64) impl.Table {
	return impl.Table{Stations: []impl.Station{{Id: id, Score: score, Domain: domain}}}
}

// randomTable: a right one of any size.
func randomTable(random *rand.Rand) impl.Table {
	t := impl.Table{}
	id := int64(0)
	for range 1 + random.Intn(impl.MaxStations) {
		id += 1 + random.Int63n(1+random.Int63n(83))
		domain := []int64(nil)
		for _, c := range random.Perm(impl.HighChannel - impl.LowChannel + 1)[:1+random.Intn(impl.MaxDomain)] {
			domain = append(domain, impl.LowChannel+int64(c))
		}
		slices.Sort(domain)
		t.Stations = append(t.Stations, impl.Station{Id: id, Score: 1 + random.Int63n(1000), Domain: domain})
	}
	dense := random.Intn(4)
	for i, a := range t.Stations {
		for _, b := range t.Stations[i+1:] {
			if random.Intn(4) < dense && len(t.Pairs) < impl.MaxPairs {
				t.Pairs = append(t.Pairs, impl.Pair{A: a.Id, B: b.Id, Kind: 1 + random.Int63n(2)})
			}
		}
	}
	return t
}

// rightTables: ordinary tables, those at the edges of what is right, and some of any kind.
func rightTables() map[string]impl.Table {
	all := map[string]impl.Table{
		"ordinary":                   threeStations(),
		"no Pair":                    {Stations: stationsOf(3)},
		"no Pair, an empty list":     {Stations: stationsOf(3), Pairs: []impl.Pair{}},
		"one Station, all least":     oneStation(1, 1, 2),
		"one Station, all greatest":  oneStation(999, 1000, 51),
		"LowChannel and HighChannel": oneStation(7, 7, 2, 51),
		"MaxDomain":                  oneStation(7, 7, channels(44, impl.MaxDomain)...),
		"MaxStations less one":       {Stations: stationsOf(impl.MaxStations - 1)},
		"MaxStations":                {Stations: stationsOf(impl.MaxStations)},
		"MaxPairs less one":          {Stations: stationsOf(10), Pairs: pairsOf(10, impl.MaxPairs-1)},
		"MaxPairs":                   {Stations: stationsOf(10), Pairs: pairsOf(10, impl.MaxPairs)},
		"the first and last Id":      changed(func(t *impl.Table) { t.Stations[0].Id, t.Stations[2].Id, t.Pairs = 1, 999, nil }),
		"the same B":                 changed(func(t *impl.Table) { t.Pairs = t.Pairs[1:] }),
		"a Pair of B and C":          changed(func(t *impl.Table) { t.Pairs = t.Pairs[2:] }),
		"both Kinds":                 changed(func(t *impl.Table) { t.Pairs[0].Kind, t.Pairs[1].Kind = 2, 1 }),
		"the longest text":           longestTable(),
	}
	random := rand.New(rand.NewSource(4))
	for i := range 150 {
		all[fmt.Sprintf("random %d", i)] = randomTable(random)
	}
	return all
}

// longestTable: of each number as many digits as may be.
func longestTable() impl.Table {
	t := impl.Table{}
	for i := range int64(impl.MaxStations) {
		t.Stations = append(t.Stations, impl.Station{Id: 988 + i, Score: 1000, Domain: channels(44, impl.MaxDomain)})
	}
	for _, p := range pairsOf(impl.MaxStations, impl.MaxPairs) {
		t.Pairs = append(t.Pairs, impl.Pair{A: p.A + 987, B: p.B + 987, Kind: impl.PairBeside})
	}
	return t
}

// wrongTables: tables that are not right, each by one thing alone.
func wrongTables() map[string]impl.Table {
	all := map[string]impl.Table{
		"nothing":                  {},
		"no Station, empty lists":  {Stations: []impl.Station{}, Pairs: []impl.Pair{}},
		"Pairs alone":              {Pairs: []impl.Pair{{A: 1, B: 2, Kind: 1}}},
		"one Station too many":     {Stations: stationsOf(impl.MaxStations + 1)},
		"many Stations too many":   {Stations: stationsOf(998)},
		"one Pair too many":        {Stations: stationsOf(10), Pairs: pairsOf(10, impl.MaxPairs+1)},
		"all Pairs there are":      {Stations: stationsOf(12), Pairs: pairsOf(12, 66)},
		"no channel":               oneStation(7, 7),
		"an empty Domain":          oneStation(7, 7, []int64{}...),
		"one channel too many":     oneStation(7, 7, channels(2, impl.MaxDomain+1)...),
		"all channels there are":   oneStation(7, 7, channels(2, 50)...),
		"below LowChannel":         oneStation(7, 7, 1, 2),
		"above HighChannel":        oneStation(7, 7, 51, 52),
		"channel 0":                oneStation(7, 7, 0),
		"a channel below 0":        oneStation(7, 7, -3),
		"the least channel":        oneStation(7, 7, math.MinInt64, 2),
		"the greatest channel":     oneStation(7, 7, 2, math.MaxInt64),
		"channels alike":           oneStation(7, 7, 2, 3, 3),
		"channels falling":         oneStation(7, 7, 4, 3),
		"channels falling at last": oneStation(7, 7, 2, 9, 8),
		"two Ids alike":            changed(func(t *impl.Table) { t.Stations[1].Id, t.Pairs = 5, nil }),
		"Ids falling":              changed(func(t *impl.Table) { t.Stations[1].Id, t.Pairs = 4, nil }),
		"Ids falling at last":      changed(func(t *impl.Table) { t.Stations[2].Id, t.Pairs = 11, nil }),
		"a wrong last Domain":      changed(func(t *impl.Table) { t.Stations[2].Domain = nil }),
		"the first Id gone":        changed(func(t *impl.Table) { t.Stations = t.Stations[1:] }),
		"the last Id gone":         changed(func(t *impl.Table) { t.Stations = t.Stations[:2] }),
		"A equal to B":             changed(func(t *impl.Table) { t.Pairs[0].B = 5 }),
		"A above B":                changed(func(t *impl.Table) { t.Pairs = []impl.Pair{{A: 12, B: 5, Kind: 1}} }),
		"A no Station's":           changed(func(t *impl.Table) { t.Pairs = []impl.Pair{{A: 6, B: 12, Kind: 1}} }),
		"B no Station's":           changed(func(t *impl.Table) { t.Pairs = []impl.Pair{{A: 5, B: 13, Kind: 1}} }),
		"neither a Station's":      changed(func(t *impl.Table) { t.Pairs = []impl.Pair{{A: 1, B: 2, Kind: 1}} }),
		"two Pairs alike":          changed(func(t *impl.Table) { t.Pairs[1] = t.Pairs[0] }),
		"two of another Kind":      changed(func(t *impl.Table) { t.Pairs[1] = impl.Pair{A: 5, B: 12, Kind: impl.PairBeside} }),
		"alike and apart":          changed(func(t *impl.Table) { t.Pairs[2] = impl.Pair{A: 5, B: 12, Kind: impl.PairBeside} }),
		"Pairs falling by A":       changed(func(t *impl.Table) { t.Pairs[1], t.Pairs[2] = t.Pairs[2], t.Pairs[1] }),
		"Pairs falling by B":       changed(func(t *impl.Table) { t.Pairs[0], t.Pairs[1] = t.Pairs[1], t.Pairs[0] }),
		"all falling":              changed(func(t *impl.Table) { slices.Reverse(t.Pairs) }),
	}
	for _, n := range []int64{0, -1, 1000, math.MinInt64, math.MaxInt64} {
		all[fmt.Sprintf("Id %d", n)] = oneStation(n, 7, 2)
	}
	for _, n := range []int64{0, -1, 1001, math.MinInt64, math.MaxInt64} {
		all[fmt.Sprintf("Score %d", n)] = oneStation(7, n, 2)
		all[fmt.Sprintf("a last Score %d", n)] = changed(func(t *impl.Table) { t.Stations[2].Score = n })
	}
	for _, n := range []int64{0, 3, -1, math.MinInt64, math.MaxInt64} {
		all[fmt.Sprintf("Kind %d", n)] = changed(func(t *impl.Table) { t.Pairs[2].Kind = n })
	}
	return all
}

// tableKept: a copy to hold a table against later.
func tableKept(t impl.Table) impl.Table {
	stations := slices.Clone(t.Stations)
	for i := range stations {
		stations[i].Domain = slices.Clone(stations[i].Domain)
	}
	return impl.Table{Stations: stations, Pairs: slices.Clone(t.Pairs)}
}

// tablesAlike: an empty list and none are the same.
func tablesAlike(a impl.Table, b impl.Table) bool {
	stations := func(x impl.Station, y impl.Station) bool {
		return x.Id == y.Id && x.Score == y.Score && slices.Equal(x.Domain, y.Domain)
	}
	return slices.EqualFunc(a.Stations, b.Stations, stations) && slices.Equal(a.Pairs, b.Pairs)
}

func wantTable(t *testing.T, what string, got impl.TableOut, want impl.TableOut) {
	t.Helper()
	if got.Code != want.Code || got.Line != want.Line || !tablesAlike(got.Table, want.Table) {
		t.Errorf("%s: got %+v, want %+v", what, got, want)
	}
}

// wantLine: the text is refused at that line, with nothing beside it.
func wantLine(t *testing.T, what string, text string, line int) {
	t.Helper()
	wantTable(t, what, impl.TableRead(text), impl.TableOut{Line: int64(line), Code: impl.ErrSyntax})
}

// tableTextByHand: the text of a right table, as the document puts it.
func tableTextByHand(t impl.Table) string {
	text := ""
	for _, s := range t.Stations {
		text += fmt.Sprintf("station %d %d %s\n", s.Id, s.Score, strings.Trim(fmt.Sprint(s.Domain), "[]"))
	}
	for _, p := range t.Pairs {
		text += fmt.Sprintf("%s %d %d\n", []string{"", "same", "beside"}[p.Kind], p.A, p.B)
	}
	return text
}

const numberForm = `(0|[1-9][0-9]{0,9})`

var (
	stationForm = regexp.MustCompile(`^station ` + numberForm + ` ` + numberForm + `((?: ` + numberForm + `)+)$`)
	pairForm    = regexp.MustCompile(`^(same|beside) ` + numberForm + ` ` + numberForm + `$`)
)

func numberByHand(word string) int64 {
	n, _ := strconv.ParseInt(word, 10, 64)
	return n
}

// tableByHand: the lines of a table as they stand; none, if a line has no such form or is out of its place.
func tableByHand(lines []string) (impl.Table, bool) {
	t := impl.Table{}
	for _, line := range lines {
		if m := stationForm.FindStringSubmatch(line); m != nil && len(t.Pairs) == 0 {
			s := impl.Station{Id: numberByHand(m[1]), Score: numberByHand(m[2])}
			for _, word := range strings.Fields(m[3]) {
				s.Domain = append(s.Domain, numberByHand(word))
			}
			t.Stations = append(t.Stations, s)
		} else if m := pairForm.FindStringSubmatch(line); m != nil {
			kind := int64(1 + strings.Index("sb", m[1][:1]))
			t.Pairs = append(t.Pairs, impl.Pair{A: numberByHand(m[2]), B: numberByHand(m[3]), Kind: kind})
		} else {
			return impl.Table{}, false
		}
	}
	return t, rightByHand(t)
}

// rightByHand: each sentence of the document about a right table, thing by thing.
func rightByHand(t impl.Table) bool {
	if len(t.Stations) == 0 || len(t.Stations) > 12 || len(t.Pairs) > 40 {
		return false
	}
	known := map[int64]bool{}
	before := int64(0)
	for _, s := range t.Stations {
		if s.Id <= before || s.Id > 999 || s.Score < 1 || s.Score > 1000 || len(s.Domain) == 0 || len(s.Domain) > 8 {
			return false
		}
		for i, c := range s.Domain {
			if c < 2 || c > 51 || i > 0 && s.Domain[i-1] >= c {
				return false
			}
		}
		before = s.Id
		known[s.Id] = true
	}
	for i, p := range t.Pairs {
		if !known[p.A] || !known[p.B] || p.A >= p.B || p.Kind < 1 || p.Kind > 2 {
			return false
		}
		if i > 0 && 1000*t.Pairs[i-1].A+t.Pairs[i-1].B >= 1000*p.A+p.B {
			return false
		}
	}
	return true
}

// readByHand: what TableRead is to tell of a text of up to MaxBytes bytes.
func readByHand(text string) impl.TableOut {
	lines := strings.Split(text, "\n")
	whole := lines[:len(lines)-1]
	for i := range whole {
		if _, ok := tableByHand(whole[:i+1]); !ok {
			return impl.TableOut{Line: int64(i), Code: impl.ErrSyntax}
		}
	}
	t, ok := tableByHand(whole)
	if !ok || !strings.HasSuffix(text, "\n") {
		return impl.TableOut{Line: int64(len(whole)), Code: impl.ErrSyntax}
	}
	return impl.TableOut{Table: t}
}

func TestTableRightAtItsEdges(t *testing.T) {
	for what, table := range rightTables() {
		if !impl.TableRight(table) {
			t.Errorf("%s: should be right", what)
		}
	}
	for what, table := range wrongTables() {
		if impl.TableRight(table) {
			t.Errorf("%s: should be wrong", what)
		}
	}
}

func TestTableText(t *testing.T) {
	if got := impl.TableText(threeStations()); got != threeText {
		t.Errorf("by hand: got %q", got)
	}
	for what, table := range rightTables() {
		if got, want := impl.TableText(table), tableTextByHand(table); got != want {
			t.Errorf("%s: got %q, want %q", what, got, want)
		}
	}
	for what, table := range wrongTables() {
		if got := impl.TableText(table); got != "" {
			t.Errorf("%s: got %q, want none", what, got)
		}
	}
}

// Promise 7.
func TestRightTablesComeBack(t *testing.T) {
	for what, table := range rightTables() {
		text := impl.TableText(table)
		if text == "" || len(text) > impl.MaxBytes {
			t.Errorf("%s: a text of %d bytes", what, len(text))
		}
		got := impl.TableRead(text)
		wantTable(t, what, got, impl.TableOut{Table: table})
		if back := impl.TableText(got.Table); back != text {
			t.Errorf("%s: the text comes back as %q", what, back)
		}
	}
}

// A table has no text but its own: none of a wrong one is read, at whatever line it goes wrong.
func TestTextsOfWrongTablesAreRefused(t *testing.T) {
	for what, table := range wrongTables() {
		if slices.ContainsFunc(table.Pairs, func(p impl.Pair) bool { return p.Kind < 1 || p.Kind > 2 }) {
			continue
		}
		text := tableTextByHand(table)
		want := readByHand(text)
		if want.Code != impl.ErrSyntax {
			t.Fatalf("%s: read by hand", what)
		}
		wantTable(t, what, impl.TableRead(text), want)
	}
}

func TestTableReadNamesTheLine(t *testing.T) {
	two := "station 1 10 2 3\nstation 2 5 2\n"
	cases := []struct {
		text string
		line int
	}{
		{"", 0},
		{"\n", 0},
		{"\n\n", 0},
		{" ", 0},
		{" \n", 0},
		{"station", 0},
		{"station\n", 0},
		{"station 1\n", 0},
		{"station 1 10\n", 0},
		{"station 1 10 \n", 0},
		{"station 1 10 2", 0},
		{"station 1 10 2 \n", 0},
		{" station 1 10 2\n", 0},
		{"station  1 10 2\n", 0},
		{"station 1  10 2\n", 0},
		{"station 1 10  2\n", 0},
		{"station 1 10 2  3\n", 0},
		{"station\t1 10 2\n", 0},
		{"station 1 10 2\r\n", 0},
		{"station 1 10 2\x00\n", 0},
		{"station 01 10 2\n", 0},
		{"station 1 010 2\n", 0},
		{"station 1 10 02\n", 0},
		{"station 1 10 00\n", 0},
		{"station +1 10 2\n", 0},
		{"station -1 10 2\n", 0},
		{"station 1 -10 2\n", 0},
		{"station 1 10 -2\n", 0},
		{"station -0 10 2\n", 0},
		{"station 1.0 10 2\n", 0},
		{"station 1 0x1 2\n", 0},
		{"station 1 1_0 2\n", 0},
		{"station 1 10 ٢\n", 0},
		{"station 1 10 2\xff\n", 0},
		{"station 1 10 \xff2\n", 0},
		{"station 0 10 2\n", 0},
		{"station 1000 10 2\n", 0},
		{"station 18446744073709551617 10 2\n", 0},
		{"station 1 18446744073709551617 2\n", 0},
		{"station 1 10 18446744073709551618\n", 0},
		{"station 1 10 -18446744073709551614\n", 0},
		{"Station 1 10 2\n", 0},
		{"stations 1 10 2\n", 0},
		{"statio 1 10 2\n", 0},
		{"1 1 10 2\n", 0},
		{"same 1 2\n", 0},
		{"same 1 2\n" + two, 0},
		{two + "station 2 5 2\n", 2},
		{two + "station 1 5 2\n", 2},
		{two + "\n", 2},
		{two + "\n" + "same 1 2\n", 2},
		{two + " \n", 2},
		{two + "same 1 2", 2},
		{two + "same 1 2 \n", 2},
		{two + "same 1  2\n", 2},
		{two + "same  1 2\n", 2},
		{two + " same 1 2\n", 2},
		{two + "same 1\n", 2},
		{two + "same\n", 2},
		{two + "same 1 2 1\n", 2},
		{two + "same 1 2 2\n", 2},
		{two + "same 01 2\n", 2},
		{two + "same 1 02\n", 2},
		{two + "same 1 1\n", 2},
		{two + "same 2 1\n", 2},
		{two + "same 1 3\n", 2},
		{two + "same 0 2\n", 2},
		{two + "near 1 2\n", 2},
		{two + "1 1 2\n", 2},
		{two + "3 1 2\n", 2},
		{two + "SAME 1 2\n", 2},
		{two + "Beside 1 2\n", 2},
		{two + "besides 1 2\n", 2},
		{two + "same 1 2\nsame 1 2\n", 3},
		{two + "same 1 2\nbeside 1 2\n", 3},
		{two + "beside 1 2\nsame 1 2\n", 3},
		{two + "same 1 2\n\n", 3},
		{two + "same 1 2\nstation 3 5 2\n", 3},
		{two + "same 1 2\nstation 3 5 2", 3},
		{two + "same 1 2\n ", 3},
		{two + "same 1 3\nstation 3 5 2\n", 2},
		{two + "station 3 5 2\nsame 1 2\nsame 2 3\nsame 1 3\n", 5},
		{two + "station 3 5 2\nsame 1 3\nsame 1 2\n", 4},
		// Of two that are wrong the first line is told, though the last one has no line feed.
		{two + "same 2 1\nx", 2},
		{"x\n" + two, 0},
		{"station 1 10 1\nstation 1 10 2\n", 0},
	}
	for _, c := range cases {
		wantLine(t, strconv.Quote(c.text), c.text, c.line)
		if by := readByHand(c.text); by.Code != impl.ErrSyntax || by.Line != int64(c.line) {
			t.Errorf("%q: by hand %+v", c.text, by)
		}
	}
}

func TestTooManyLines(t *testing.T) {
	many := impl.Table{Stations: stationsOf(impl.MaxStations + 5)}
	wantLine(t, "stations", tableTextByHand(many), impl.MaxStations)
	many = impl.Table{Stations: stationsOf(10), Pairs: pairsOf(10, 45)}
	wantLine(t, "pairs", tableTextByHand(many), 10+impl.MaxPairs)
	for count := range 12 {
		text := "station 1 1 2\n" + tableTextByHand(oneStation(2, 1, channels(2, count)...))
		got := impl.TableRead(text)
		if fine := count >= 1 && count <= impl.MaxDomain; (got.Code == impl.OK) != fine || !fine && got.Line != 1 {
			t.Errorf("%d channels: got %+v", count, got)
		}
	}
}

func TestTableBreaksOffAtEachByte(t *testing.T) {
	for _, text := range []string{threeText, impl.TableText(longestTable()), "station 999 1000 51\n"} {
		for size := range len(text) {
			part := text[:size]
			feeds := strings.Count(part, "\n")
			if size > 0 && part[size-1] == '\n' {
				table, _ := tableByHand(strings.Split(text, "\n")[:feeds])
				wantTable(t, part, impl.TableRead(part), impl.TableOut{Table: table})
				continue
			}
			wantLine(t, strconv.Quote(part), part, feeds)
		}
	}
}

func TestTableWithOneByteOther(t *testing.T) {
	others := []string{"", " ", "\n", "0", "1", "9", "-", "s", "\x00", "\xff", "é", "\r", "  ", "\n\n", "51"}
	for at := range len(threeText) {
		for _, other := range others {
			for _, text := range []string{threeText[:at] + other + threeText[at+1:], threeText[:at] + other + threeText[at:]} {
				wantTable(t, strconv.Quote(text), impl.TableRead(text), readByHand(text))
			}
		}
	}
}

func TestTableLinesMovedAbout(t *testing.T) {
	t.Parallel()
	random := rand.New(rand.NewSource(44))
	read := 0
	for range 3000 {
		lines := strings.SplitAfter(tableTextByHand(randomTable(random)), "\n")
		lines = lines[:len(lines)-1]
		for range random.Intn(3) {
			switch i, j := random.Intn(len(lines)), random.Intn(len(lines)); random.Intn(4) {
			case 0:
				lines[i], lines[j] = lines[j], lines[i]
			case 1:
				lines[i] = lines[j]
			case 2:
				lines = slices.Insert(lines, i, lines[j])
			case 3:
				lines = append(slices.Delete(lines, i, i+1), lines[0])
			}
		}
		text := strings.Join(lines, "")
		want := readByHand(text)
		if want.Code == impl.OK {
			read++
		}
		wantTable(t, strconv.Quote(text), impl.TableRead(text), want)
	}
	if read < 100 || read > 2900 {
		t.Errorf("%d of the texts can be read", read)
	}
}

func TestTableTextTooLong(t *testing.T) {
	sizes := impl.TableOut{Code: impl.ErrSize}
	for what, text := range map[string]string{
		"a right text and more":  threeText + strings.Repeat("x", allBytes+1-len(threeText)),
		"line feeds":             strings.Repeat("\n", allBytes+1),
		"one line":               strings.Repeat("station 1 ", allBytes/10) + "\n",
		"runes of more bytes":    strings.Repeat("é", allBytes/2+1),
		"a fault ahead, too":     "x\n" + strings.Repeat("y", 3*allBytes),
		"blanks behind a number": "station 1 1 2" + strings.Repeat(" ", allBytes) + "\n",
	} {
		if len(text) <= allBytes {
			t.Fatalf("%s: only %d bytes", what, len(text))
		}
		wantTable(t, what, impl.TableRead(text), sizes)
	}
	wantLine(t, "just MaxBytes behind a right text", threeText+strings.Repeat("x", allBytes-len(threeText)), 6)
	wantLine(t, "just MaxBytes of digits", "station "+strings.Repeat("1", allBytes-8), 0)
	wantLine(t, "just MaxBytes of noughts", "station "+strings.Repeat("0", allBytes-14)+"1 1 2\n", 0)
	wantLine(t, "just MaxBytes of blanks", strings.Repeat(" ", allBytes-1)+"\n", 0)
	wantLine(t, "just MaxBytes of line feeds", threeText+strings.Repeat("\n", allBytes-len(threeText)), 6)
}

// wantNumbers: an empty list and none are the same.
func wantNumbers(t *testing.T, what string, got []int64, want []int64) {
	t.Helper()
	if !slices.Equal(got, want) {
		t.Errorf("%s: got %v, want %v", what, got, want)
	}
}

// tops: around each channel there may be, and far out.
func tops() []int64 {
	list := []int64{math.MinInt64, math.MinInt64 + 1, -1000, -2, 1000, math.MaxInt64 - 1, math.MaxInt64}
	for c := int64(-1); c <= impl.HighChannel+2; c++ {
		list = append(list, c)
	}
	slices.Sort(list)
	return list
}

// idsAround: the Ids of a table, those next to them, and far out.
func idsAround(table impl.Table) []int64 {
	list := []int64{math.MinInt64, -1, 0, 1, 999, 1000, math.MaxInt64}
	for _, s := range table.Stations {
		list = append(list, s.Id-1, s.Id, s.Id+1, -s.Id)
	}
	return list
}

// domainByHand: the channels of that Id up to top.
func domainByHand(table impl.Table, id int64, top int64) []int64 {
	for _, s := range table.Stations {
		if s.Id == id {
			return slices.DeleteFunc(slices.Clone(s.Domain), func(c int64) bool { return c > top })
		}
	}
	return nil
}

// nearByHand: all that are in a Pair with that Id.
func nearByHand(table impl.Table, id int64) []int64 {
	near := map[int64]bool{}
	for _, p := range table.Pairs {
		if p.A == id {
			near[p.B] = true
		} else if p.B == id {
			near[p.A] = true
		}
	}
	return slices.Sorted(maps.Keys(near))
}

func TestDomainOf(t *testing.T) {
	t.Parallel()
	table := threeStations()
	for _, c := range []struct {
		id   int64
		top  int64
		want []int64
	}{
		{12, 1, nil}, {12, 2, []int64{2}}, {12, 13, []int64{2}}, {12, 14, []int64{2, 14}}, {12, 15, []int64{2, 14}},
		{12, 50, []int64{2, 14}}, {12, 51, []int64{2, 14, 51}}, {12, 52, []int64{2, 14, 51}}, {13, 51, nil}, {907, 29, nil}, {907, 30, []int64{30}},
	} {
		wantNumbers(t, fmt.Sprint("domain ", c.id, " up to ", c.top), impl.DomainOf(table, c.id, c.top), c.want)
	}
	for what, table := range rightTables() {
		for _, id := range idsAround(table) {
			for _, top := range []int64{math.MinInt64, 0, 1, 2, 3, 26, 50, 51, 52, math.MaxInt64} {
				wantNumbers(t, fmt.Sprint(what, ", ", id, " up to ", top), impl.DomainOf(table, id, top), domainByHand(table, id, top))
			}
		}
	}
	for what, table := range wrongTables() {
		for _, id := range idsAround(table) {
			wantNumbers(t, what, impl.DomainOf(table, id, 51), nil)
		}
	}
}

// Promise 8, its second half.
func TestGreaterTopTakesNoChannelAway(t *testing.T) {
	t.Parallel()
	for what, table := range rightTables() {
		for _, s := range table.Stations {
			before := []int64(nil)
			for _, top := range tops() {
				got := impl.DomainOf(table, s.Id, top)
				if len(got) < len(before) || !slices.Equal(got[:len(before)], before) {
					t.Errorf("%s, %d: %v up to %d, %v ahead of it", what, s.Id, got, top, before)
				}
				before = got
			}
			wantNumbers(t, what, before, s.Domain)
		}
	}
}

func TestTableNear(t *testing.T) {
	table := threeStations()
	table.Pairs = table.Pairs[1:]
	wantNumbers(t, "5", impl.TableNear(table, 5), []int64{907})
	wantNumbers(t, "12", impl.TableNear(table, 12), []int64{907})
	wantNumbers(t, "907", impl.TableNear(table, 907), []int64{5, 12})
	wantNumbers(t, "6", impl.TableNear(table, 6), nil)
	for what, table := range rightTables() {
		for _, id := range idsAround(table) {
			wantNumbers(t, fmt.Sprint(what, ", ", id), impl.TableNear(table, id), nearByHand(table, id))
		}
	}
	for what, table := range wrongTables() {
		for _, id := range idsAround(table) {
			wantNumbers(t, what, impl.TableNear(table, id), nil)
		}
	}
}

// Promise 8, its first half.
func TestWhoIsNearHasItNear(t *testing.T) {
	for what, table := range rightTables() {
		pairs := 0
		for _, s := range table.Stations {
			near := impl.TableNear(table, s.Id)
			pairs += len(near)
			for _, other := range near {
				if other == s.Id || !slices.Contains(impl.TableNear(table, other), s.Id) {
					t.Errorf("%s: %d has %d near, not so the other way", what, s.Id, other)
				}
			}
		}
		if pairs != 2*len(table.Pairs) {
			t.Errorf("%s: %d near in all, of %d Pairs", what, pairs, len(table.Pairs))
		}
	}
}

func TestTableIds(t *testing.T) {
	wantNumbers(t, "ordinary", impl.TableIds(threeStations()), []int64{5, 12, 907})
	for what, table := range rightTables() {
		want := []int64(nil)
		for _, s := range table.Stations {
			want = append(want, s.Id)
		}
		wantNumbers(t, what, impl.TableIds(table), want)
	}
	for what, table := range wrongTables() {
		wantNumbers(t, what, impl.TableIds(table), nil)
	}
}

// spacious: the same table, with room behind each list, in which a wrong append would be seen.
func spacious(t impl.Table) impl.Table {
	stations := append(make([]impl.Station, 0, len(t.Stations)+4), t.Stations...)
	for i, s := range stations {
		stations[i].Domain = append(make([]int64, 0, len(s.Domain)+4), s.Domain...)
	}
	return impl.Table{Stations: stations, Pairs: append(make([]impl.Pair, 0, len(t.Pairs)+4), t.Pairs...)}
}

// beyond: all that a table's lists hold, with the room behind them.
func beyond(t impl.Table) impl.Table {
	stations := slices.Clone(t.Stations[:cap(t.Stations)])
	for i, s := range stations {
		stations[i].Domain = slices.Clone(s.Domain[:cap(s.Domain)])
	}
	return impl.Table{Stations: stations, Pairs: slices.Clone(t.Pairs[:cap(t.Pairs)])}
}

func TestTablesAreNotChanged(t *testing.T) {
	t.Parallel()
	both := rightTables()
	maps.Copy(both, wrongTables())
	for what, table := range both {
		own := spacious(table)
		before := beyond(own)
		impl.TableRight(own)
		impl.TableText(own)
		impl.TableIds(own)
		for _, id := range idsAround(table) {
			impl.TableNear(own, id)
			impl.DomainOf(own, id, 30)
			impl.DomainOf(own, id, math.MaxInt64)
		}
		if !tablesAlike(beyond(own), before) || !tablesAlike(own, table) {
			t.Errorf("%s: the table is changed", what)
		}
	}
}

// spoilNumbers turns all that a list holds, and the room behind it.
func spoilNumbers(list []int64) {
	list = list[:cap(list)]
	for i := range list {
		list[i] = -77
	}
}

func TestListsOfTablesAreNewMemory(t *testing.T) {
	for what, table := range rightTables() {
		own := tableKept(table)
		for _, s := range table.Stations {
			spoilNumbers(impl.DomainOf(own, s.Id, math.MaxInt64))
			spoilNumbers(impl.DomainOf(own, s.Id, 20))
			spoilNumbers(impl.TableNear(own, s.Id))
			spoilNumbers(impl.TableIds(own))
		}
		if !tablesAlike(own, table) {
			t.Errorf("%s: an answer shares memory with it", what)
		}
	}
}

func TestListsOfOneReadShareNoMemory(t *testing.T) {
	for what, table := range rightTables() {
		text := impl.TableText(table)
		first, second := impl.TableRead(text).Table, impl.TableRead(text).Table
		for i := range first.Stations {
			spoilNumbers(first.Stations[i].Domain)
			first.Stations[i].Domain = table.Stations[i].Domain
			if !tablesAlike(first, table) {
				t.Errorf("%s: the Domain at %d shares memory", what, i)
			}
		}
		for i := range first.Pairs[:cap(first.Pairs)] {
			first.Pairs[:cap(first.Pairs)][i] = impl.Pair{A: -77}
		}
		for i := range first.Stations[:cap(first.Stations)] {
			first.Stations[:cap(first.Stations)][i] = impl.Station{Id: -77}
		}
		if !tablesAlike(second, table) {
			t.Errorf("%s: two answers share memory", what)
		}
		wantTable(t, what, impl.TableRead(text), impl.TableOut{Table: table})
	}
}
