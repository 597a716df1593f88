package tests

import (
	"math"
	"math/rand"
	"slices"
	"strings"
	"testing"

	"loop.example/g00144/impl"
)

const allBytes = impl.MaxBytes

// writesOf: so many writes, each of that text.
func writesOf(count int, text string) []string {
	return slices.Repeat([]string{text}, count)
}

// filled: a text of so many bytes, no two near each other alike.
func filled(size int) string {
	text := make([]byte, size)
	for i := range text {
		text[i] = byte(i*7 + i/256)
	}
	return string(text)
}

// rightDisks: ordinary disks and those at the edges of what is right.
func rightDisks() map[string]impl.Disk {
	return map[string]impl.Disk{
		"nothing":                     {},
		"an empty list":               {Loose: []string{}},
		"safe alone":                  {Safe: "ab"},
		"loose alone":                 {Loose: []string{"cd", "e"}},
		"both":                        {Safe: "ab", Loose: []string{"cd", "e", "fgh"}},
		"one byte":                    {Loose: []string{"\x00"}},
		"bytes of no rune":            {Safe: "\xff\x00", Loose: []string{"\xc3", "\xa9\x80"}},
		"runes of more bytes":         {Safe: "é", Loose: []string{"日本", "\U0001f4fb"}},
		"alike":                       {Safe: "aa", Loose: []string{"a", "a", "aa"}},
		"MaxWrites less one":          {Safe: "s", Loose: writesOf(impl.MaxWrites-1, "xy")},
		"MaxWrites":                   {Safe: "s", Loose: writesOf(impl.MaxWrites, "xy")},
		"MaxWrites of MaxBytes":       {Loose: writesOf(impl.MaxWrites, filled(allBytes/impl.MaxWrites))},
		"MaxBytes safe":               {Safe: filled(allBytes)},
		"MaxBytes loose":              {Loose: []string{filled(allBytes)}},
		"MaxBytes less one":           {Safe: filled(allBytes - 4), Loose: []string{"ab", "c"}},
		"MaxBytes of both":            {Safe: filled(allBytes - 3), Loose: []string{"ab", "c"}},
		"MaxBytes of both, much more": {Safe: "ab", Loose: []string{"c", filled(allBytes - 3)}},
	}
}

// wrongDisks: disks that are not right, each by one thing alone.
func wrongDisks() map[string]impl.Disk {
	return map[string]impl.Disk{
		"an empty write alone":         {Loose: []string{""}},
		"an empty write behind safe":   {Safe: "ab", Loose: []string{""}},
		"an empty write first":         {Safe: "ab", Loose: []string{"", "c", "d"}},
		"an empty write among others":  {Safe: "ab", Loose: []string{"c", "", "d"}},
		"an empty write last":          {Safe: "ab", Loose: []string{"c", "d", ""}},
		"an empty one as MaxWrites":    {Loose: append(writesOf(impl.MaxWrites-1, "x"), "")},
		"one write too many":           {Safe: "s", Loose: writesOf(impl.MaxWrites+1, "x")},
		"many too many":                {Loose: writesOf(5000, "x")},
		"one byte too many safe":       {Safe: filled(allBytes + 1)},
		"one byte too many loose":      {Loose: []string{filled(allBytes + 1)}},
		"one byte too many of both":    {Safe: filled(allBytes - 2), Loose: []string{"ab", "c"}},
		"one byte too many by safe":    {Safe: filled(allBytes), Loose: []string{"a"}},
		"one byte too many by loose":   {Safe: "a", Loose: []string{filled(allBytes)}},
		"one byte too many, MaxWrites": {Safe: "a", Loose: writesOf(impl.MaxWrites, filled(allBytes/impl.MaxWrites))},
		"all too great":                {Safe: filled(2 * allBytes), Loose: append(writesOf(impl.MaxWrites, filled(allBytes)), "")},
	}
}

// kept: a copy to hold a disk against later.
func kept(d impl.Disk) impl.Disk {
	return impl.Disk{Safe: strings.Clone(d.Safe), Loose: slices.Clone(d.Loose)}
}

func sameDisk(t *testing.T, what string, got impl.Disk, want impl.Disk) {
	t.Helper()
	if got.Safe != want.Safe || !slices.Equal(got.Loose, want.Loose) {
		t.Errorf("%s: got %d bytes %.20q and %d loose %.40q, want %d bytes %.20q and %d loose %.40q", what,
			len(got.Safe), got.Safe, len(got.Loose), got.Loose, len(want.Safe), want.Safe, len(want.Loose), want.Loose)
	}
}

// textByHand: all that stands on a disk.
func textByHand(d impl.Disk) string {
	return d.Safe + strings.Join(d.Loose, "")
}

// crashByHand: what stands on a right disk behind a crash, byte by byte.
func crashByHand(d impl.Disk, keep int64) string {
	text := []byte(d.Safe)
	for _, b := range []byte(strings.Join(d.Loose, "")) {
		if keep <= 0 {
			break
		}
		text = append(text, b)
		keep--
	}
	return string(text)
}

// keeps: numbers of bytes around each end of what is loose on d, and far out.
func keeps(d impl.Disk) []int64 {
	list := []int64{math.MinInt64, math.MinInt64 + 1, -allBytes, -2, -1, 0, 1, 2, allBytes, allBytes + 1, math.MaxInt32 + 1, 1 << 32, math.MaxInt64 - 1, math.MaxInt64}
	end := int64(0)
	for _, text := range d.Loose {
		end += int64(len(text))
		list = append(list, end-1, end, end+1)
	}
	return list
}

func TestDiskRightAtItsEdges(t *testing.T) {
	for what, d := range rightDisks() {
		if !impl.DiskRight(d) {
			t.Errorf("%s: should be right", what)
		}
	}
	for what, d := range wrongDisks() {
		if impl.DiskRight(d) {
			t.Errorf("%s: should be wrong", what)
		}
	}
}

func TestDiskText(t *testing.T) {
	for what, d := range rightDisks() {
		if got := impl.DiskText(d); got != textByHand(d) {
			t.Errorf("%s: got %d bytes %.20q", what, len(got), got)
		}
	}
	for what, d := range wrongDisks() {
		if got := impl.DiskText(d); got != "" {
			t.Errorf("%s: got %d bytes %.20q, want none", what, len(got), got)
		}
	}
	if got := impl.DiskText(impl.Disk{Safe: "ab", Loose: []string{"cd", "e"}}); got != "abcde" {
		t.Errorf("by hand: got %q", got)
	}
}

// Promise 6: behind a crash there is what was safe, and behind that no more and no less than was kept.
func TestCrashLeavesABeginning(t *testing.T) {
	for what, d := range rightDisks() {
		before := impl.DiskText(d)
		for _, keep := range keeps(d) {
			got := impl.DiskCrash(d, keep)
			sameDisk(t, what, got, impl.Disk{Safe: crashByHand(d, keep)})
			if !strings.HasPrefix(before, impl.DiskText(got)) {
				t.Errorf("%s, %d kept: it does not begin as it stood", what, keep)
			}
			if !strings.HasPrefix(impl.DiskText(got), d.Safe) {
				t.Errorf("%s, %d kept: not all is there that was safe", what, keep)
			}
			if !impl.DiskRight(got) {
				t.Errorf("%s, %d kept: it is not right any more", what, keep)
			}
		}
	}
}

// Promise 6: what was synced is there, wherever the writes behind it break off.
func TestCrashKeepsWhatWasSynced(t *testing.T) {
	d := impl.DiskSync(impl.DiskWrite(impl.DiskWrite(impl.Disk{}, "one"), "two"))
	sameDisk(t, "synced", d, impl.Disk{Safe: "onetwo"})
	d = impl.DiskWrite(impl.DiskWrite(d, "three"), "four")
	for keep := int64(-1); keep <= 11; keep++ {
		end := 6 + min(max(keep, 0), 9)
		got := impl.DiskCrash(d, keep)
		sameDisk(t, "crashed", got, impl.Disk{Safe: "onetwothreefour"[:end]})
		sameDisk(t, "crashed again", impl.DiskCrash(got, 0), got)
		sameDisk(t, "crashed again, all kept", impl.DiskCrash(got, math.MaxInt64), got)
		sameDisk(t, "synced and crashed", impl.DiskCrash(impl.DiskSync(d), keep), impl.Disk{Safe: "onetwothreefour"})
	}
}

func TestCrashByHand(t *testing.T) {
	d := impl.Disk{Safe: "ab", Loose: []string{"cd", "e", "fg"}}
	left := []struct {
		keep int64
		safe string
	}{
		{math.MinInt64, "ab"}, {-1, "ab"}, {0, "ab"}, {1, "abc"}, {2, "abcd"}, {3, "abcde"},
		{4, "abcdef"}, {5, "abcdefg"}, {6, "abcdefg"}, {7, "abcdefg"}, {math.MaxInt64, "abcdefg"},
	}
	for _, c := range left {
		sameDisk(t, "crash", impl.DiskCrash(d, c.keep), impl.Disk{Safe: c.safe})
	}
	sameDisk(t, "nothing there", impl.DiskCrash(impl.Disk{}, 3), impl.Disk{})
	sameDisk(t, "nothing loose", impl.DiskCrash(impl.Disk{Safe: "ab"}, 1), impl.Disk{Safe: "ab"})
	sameDisk(t, "within a rune", impl.DiskCrash(impl.Disk{Safe: "a", Loose: []string{"é"}}, 1), impl.Disk{Safe: "a\xc3"})
}

func TestDiskSync(t *testing.T) {
	for what, d := range rightDisks() {
		got := impl.DiskSync(d)
		sameDisk(t, what, got, impl.Disk{Safe: textByHand(d)})
		sameDisk(t, what+", synced again", impl.DiskSync(got), got)
	}
}

func TestDiskCut(t *testing.T) {
	for what, d := range rightDisks() {
		text := textByHand(d)
		size := int64(len(text))
		sizes := []int64{0, 1, int64(len(d.Safe)) - 1, int64(len(d.Safe)), int64(len(d.Safe)) + 1, size - 1, size, size / 2}
		for _, at := range sizes {
			if at >= 0 && at <= size {
				sameDisk(t, what, impl.DiskCut(d, at), impl.Disk{Safe: text[:at]})
			}
		}
		for _, at := range []int64{math.MinInt64, -allBytes, -1, size + 1, size + 2, size + 1<<32, math.MaxInt64} {
			sameDisk(t, what+", no such size", impl.DiskCut(d, at), d)
		}
	}
	d := impl.Disk{Safe: "ab", Loose: []string{"cd", "e"}}
	for at, safe := range []string{"", "a", "ab", "abc", "abcd", "abcde"} {
		sameDisk(t, "by hand", impl.DiskCut(d, int64(at)), impl.Disk{Safe: safe})
	}
	sameDisk(t, "nothing, at 0", impl.DiskCut(impl.Disk{}, 0), impl.Disk{})
	sameDisk(t, "nothing, at 1", impl.DiskCut(impl.Disk{}, 1), impl.Disk{})
}

// A write is there just if the disk is still right with it.
func TestDiskWriteAtItsEdges(t *testing.T) {
	for what, d := range rightDisks() {
		left := allBytes - len(textByHand(d))
		for _, size := range []int{1, 2, left - 1, left, left + 1, allBytes - 1, allBytes} {
			if size < 1 || size > allBytes {
				continue
			}
			text, want := filled(size), d
			if size <= left && len(d.Loose) < impl.MaxWrites {
				want = impl.Disk{Safe: d.Safe, Loose: append(slices.Clone(d.Loose), text)}
			}
			got := impl.DiskWrite(d, text)
			sameDisk(t, what, got, want)
			if !impl.DiskRight(got) {
				t.Errorf("%s, %d bytes written: it is not right any more", what, size)
			}
		}
		sameDisk(t, what+", an empty text", impl.DiskWrite(d, ""), d)
	}
}

func TestDiskWriteByHand(t *testing.T) {
	d := impl.Disk{Safe: "ab", Loose: []string{"cd", "e"}}
	sameDisk(t, "one more", impl.DiskWrite(d, "f"), impl.Disk{Safe: "ab", Loose: []string{"cd", "e", "f"}})
	sameDisk(t, "the first", impl.DiskWrite(impl.Disk{}, "f"), impl.Disk{Loose: []string{"f"}})
	sameDisk(t, "empty onto nothing", impl.DiskWrite(impl.Disk{}, ""), impl.Disk{})
	sameDisk(t, "all at once", impl.DiskWrite(impl.Disk{}, filled(allBytes)), impl.Disk{Loose: []string{filled(allBytes)}})
	sameDisk(t, "all at once onto a byte", impl.DiskWrite(impl.Disk{Safe: "a"}, filled(allBytes)), impl.Disk{Safe: "a"})
	full := impl.Disk{}
	for range impl.MaxWrites {
		full = impl.DiskWrite(full, "x")
	}
	sameDisk(t, "MaxWrites", full, impl.Disk{Loose: writesOf(impl.MaxWrites, "x")})
	sameDisk(t, "one write too many", impl.DiskWrite(full, "x"), full)
	sameDisk(t, "room behind a sync", impl.DiskWrite(impl.DiskSync(full), "y"),
		impl.Disk{Safe: strings.Repeat("x", impl.MaxWrites), Loose: []string{"y"}})
}

// Chapter 1: too long a text is refused with the zero answer, whatever the disk is; it is no field of something.
func TestDiskWriteOfTooLongAText(t *testing.T) {
	for _, disks := range []map[string]impl.Disk{rightDisks(), wrongDisks()} {
		for what, d := range disks {
			sameDisk(t, what, impl.DiskWrite(d, filled(allBytes+1)), impl.Disk{})
			sameDisk(t, what+", much too long", impl.DiskWrite(d, filled(3*allBytes)), impl.Disk{})
		}
	}
}

// A disk that is not right comes back as it is.
func TestWrongDisksStayAsTheyAre(t *testing.T) {
	for what, d := range wrongDisks() {
		sameDisk(t, what+", synced", impl.DiskSync(d), d)
		for _, text := range []string{"", "x", filled(allBytes)} {
			sameDisk(t, what+", written", impl.DiskWrite(d, text), d)
		}
		for _, number := range []int64{math.MinInt64, -1, 0, 1, 2, allBytes, allBytes + 1, math.MaxInt64} {
			sameDisk(t, what+", crashed", impl.DiskCrash(d, number), d)
			sameDisk(t, what+", cut", impl.DiskCut(d, number), d)
		}
	}
}

// diskCalls: each call that answers a disk, with numbers and texts of both kinds.
func diskCalls() map[string]func(impl.Disk) impl.Disk {
	return map[string]func(impl.Disk) impl.Disk{
		"DiskWrite":            func(d impl.Disk) impl.Disk { return impl.DiskWrite(d, "new") },
		"DiskWrite, empty":     func(d impl.Disk) impl.Disk { return impl.DiskWrite(d, "") },
		"DiskWrite, no room":   func(d impl.Disk) impl.Disk { return impl.DiskWrite(d, filled(allBytes)) },
		"DiskWrite, too long":  func(d impl.Disk) impl.Disk { return impl.DiskWrite(d, filled(allBytes+1)) },
		"DiskSync":             impl.DiskSync,
		"DiskCrash":            func(d impl.Disk) impl.Disk { return impl.DiskCrash(d, 2) },
		"DiskCrash, none":      func(d impl.Disk) impl.Disk { return impl.DiskCrash(d, -1) },
		"DiskCrash, all":       func(d impl.Disk) impl.Disk { return impl.DiskCrash(d, math.MaxInt64) },
		"DiskCut":              func(d impl.Disk) impl.Disk { return impl.DiskCut(d, 1) },
		"DiskCut, no such one": func(d impl.Disk) impl.Disk { return impl.DiskCut(d, -1) },
	}
}

// roomy: d with room behind its list, in which a careless append would be seen.
func roomy(d impl.Disk) (impl.Disk, []string) {
	all := append(slices.Clone(d.Loose), "room", "room", "room")
	return impl.Disk{Safe: d.Safe, Loose: all[:len(d.Loose)]}, all
}

// spoil: overwrite all that a list reaches, its room too.
func spoil(list []string) {
	list = list[:cap(list)]
	for i := range list {
		list[i] = "spoilt"
	}
}

func TestDisksAreNewMemory(t *testing.T) {
	for _, disks := range []map[string]impl.Disk{rightDisks(), wrongDisks()} {
		for what, before := range disks {
			for name, call := range diskCalls() {
				d, all := roomy(before)
				whole := slices.Clone(all)
				got := call(d)
				if d.Safe != before.Safe || !slices.Equal(all, whole) {
					t.Fatalf("%s of %s changed its argument", name, what)
				}
				want := kept(got)
				spoil(got.Loose)
				if !slices.Equal(all, whole) {
					t.Fatalf("%s of %s: its answer leads into its argument", name, what)
				}
				again := call(d)
				sameDisk(t, name+" of "+what+", once more", again, want)
				spoil(all)
				sameDisk(t, name+" of "+what+", its argument spoilt", again, want)
			}
		}
	}
}

// DiskRight and DiskText only look.
func TestDiskIsOnlyLookedAt(t *testing.T) {
	for _, disks := range []map[string]impl.Disk{rightDisks(), wrongDisks()} {
		for what, before := range disks {
			d, all := roomy(before)
			whole := slices.Clone(all)
			impl.DiskRight(d)
			impl.DiskText(d)
			if d.Safe != before.Safe || !slices.Equal(all, whole) {
				t.Errorf("%s: it is changed", what)
			}
		}
	}
}

// Two disks written from one do not see each other.
func TestWritesFromOneDisk(t *testing.T) {
	d := impl.DiskWrite(impl.DiskWrite(impl.DiskWrite(impl.Disk{}, "a"), "b"), "c")
	left, right := impl.DiskWrite(d, "left"), impl.DiskWrite(d, "right")
	sameDisk(t, "left", left, impl.Disk{Loose: []string{"a", "b", "c", "left"}})
	sameDisk(t, "right", right, impl.Disk{Loose: []string{"a", "b", "c", "right"}})
	sameDisk(t, "both", d, impl.Disk{Loose: []string{"a", "b", "c"}})
}

// Promise 6, through long runs of all calls, held against bytes and two marks.
func TestRunsOfADisk(t *testing.T) {
	t.Parallel()
	random := rand.New(rand.NewSource(6))
	for range 200 {
		d, synced := impl.Disk{}, ""
		for range 150 {
			before := textByHand(d)
			switch pick := random.Intn(20); {
			case pick < 14:
				text := filled(random.Intn(300))
				d = impl.DiskWrite(d, text)
				if after := textByHand(d); after != before && after != before+text {
					t.Fatal("a write left something else")
				}
			case pick < 16:
				d = impl.DiskSync(d)
				synced = before
			case pick < 19:
				d = impl.DiskCrash(d, int64(random.Intn(len(before)+20)-10))
				if !strings.HasPrefix(textByHand(d), synced) || !strings.HasPrefix(before, textByHand(d)) {
					t.Fatal("a crash took what was synced, or left something else")
				}
				synced = textByHand(d)
			default:
				size := random.Intn(len(before) + 1)
				d = impl.DiskCut(d, int64(size))
				synced = before[:size]
				sameDisk(t, "cut", d, impl.Disk{Safe: synced})
			}
			if !impl.DiskRight(d) || d.Safe != synced {
				t.Fatalf("%d bytes are safe, %d were synced", len(d.Safe), len(synced))
			}
		}
	}
}
