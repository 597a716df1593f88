package tests

import (
	"encoding/binary"
	"math"
	"math/big"
	"math/rand"
	"reflect"
	"slices"
	"strings"
	"testing"

	"loop.example/g00144/impl"
)

// manyNums: so many Nums, each n.
func manyNums(count int, n int64) []int64 {
	return slices.Repeat([]int64{n}, count)
}

// rightRecs: ordinary records and those at the edges of what may be written.
func rightRecs() []impl.Rec {
	recs := []impl.Rec{
		{Kind: 1},
		{Kind: 100},
		{Kind: 1, Nums: []int64{1, -1}},
		{Kind: 82, Nums: []int64{82, 41, -41, 82}},
		{Kind: 7, Nums: []int64{0, 63, 64, -64, -65, 8191, 8192, -8192, -8193, math.MaxInt32, math.MinInt32}},
		{Kind: 3, Nums: []int64{impl.MaxNum, -impl.MaxNum, impl.MaxNum - 1, 1 - impl.MaxNum}},
		{Kind: 100, Nums: manyNums(impl.MaxNums, 0)},
		{Kind: 2, Nums: manyNums(impl.MaxNums, impl.MaxNum)},
		{Kind: 2, Nums: manyNums(impl.MaxNums, -impl.MaxNum)},
	}
	for _, length := range []int{15, 16, 17, 31} {
		// Eight bytes a Num: lengths from one byte to two.
		recs = append(recs, impl.Rec{Kind: 9, Nums: manyNums(length, impl.MaxNum)})
	}
	random := rand.New(rand.NewSource(2))
	for range 60 {
		r := impl.Rec{Kind: 1 + random.Int63n(100)}
		for range random.Intn(impl.MaxNums + 1) {
			n := random.Int63n(impl.MaxNum+1) >> random.Intn(54)
			if random.Intn(2) == 0 {
				n = -n
			}
			r.Nums = append(r.Nums, n)
		}
		recs = append(recs, r)
	}
	return recs
}

// wrongRecs: records that can't be written.
func wrongRecs() []impl.Rec {
	recs := []impl.Rec{
		{},
		{Kind: 101},
		{Kind: -1},
		{Kind: math.MinInt64},
		{Kind: math.MaxInt64},
		{Nums: []int64{1}},
		{Kind: 1, Nums: manyNums(impl.MaxNums+1, 0)},
		{Kind: 1, Nums: manyNums(1000, 0)},
	}
	for _, n := range []int64{impl.MaxNum + 1, -impl.MaxNum - 1, math.MaxInt64, math.MinInt64} {
		recs = append(recs,
			impl.Rec{Kind: 1, Nums: []int64{n}},
			impl.Rec{Kind: 1, Nums: []int64{n, 0, 0}},
			impl.Rec{Kind: 1, Nums: []int64{0, 0, n}},
			impl.Rec{Kind: 1, Nums: append(manyNums(impl.MaxNums-1, 0), n)})
	}
	return recs
}

// sumByHand: the sum of a text, by unbounded numbers.
func sumByHand(text string) int64 {
	sum, prime := big.NewInt(1), big.NewInt(4294967291)
	for _, b := range []byte(text) {
		sum.Mul(sum, big.NewInt(263))
		sum.Add(sum, big.NewInt(int64(b)))
		sum.Mod(sum, prime)
	}
	return sum.Int64()
}

// sealed: bytes that tell a length (as it is given) and a body, under 82 and with the right sum.
func sealed(length string, body string) string {
	summed := length + body
	return "R" + summed + string(binary.BigEndian.AppendUint32(nil, uint32(sumByHand(summed))))
}

// lengthOf: a number from 0 on by seven bits a byte.
func lengthOf(n int) string {
	return string(binary.AppendUvarint(nil, uint64(n)))
}

// sealedBody: a body with its own length and the right sum.
func sealedBody(body string) string {
	return sealed(lengthOf(len(body)), body)
}

// bodyByHand: Kind, count and Nums, whatever they are; the library's signed numbers are those of the chapter.
func bodyByHand(kind uint64, count uint64, nums ...int64) string {
	body := binary.AppendUvarint(nil, kind)
	body = binary.AppendUvarint(body, count)
	for _, n := range nums {
		body = binary.AppendVarint(body, n)
	}
	return string(body)
}

func bytesByHand(r impl.Rec) string {
	return sealedBody(bodyByHand(uint64(r.Kind), uint64(len(r.Nums)), r.Nums...))
}

func sameRec(a impl.Rec, b impl.Rec) bool {
	return a.Kind == b.Kind && slices.Equal(a.Nums, b.Nums)
}

// wantRead: RecRead of text is r and as many bytes as used.
func wantRead(t *testing.T, what string, text string, r impl.Rec, used int) {
	t.Helper()
	got := impl.RecRead(text)
	if got.Code != impl.OK || got.Used != int64(used) || !sameRec(got.Rec, r) {
		t.Errorf("%s: got %+v, want %+v of %d bytes", what, got, r, used)
	}
}

// wantFault: RecRead of text is this code, and nothing beside it; so is RecsOf, for a text that is not empty.
func wantFault(t *testing.T, what string, text string, code int64) {
	t.Helper()
	if got := impl.RecRead(text); !reflect.DeepEqual(got, impl.RecOut{Code: code}) {
		t.Errorf("%s: RecRead: got %+v, want code %d alone", what, got, code)
	}
	if text == "" {
		return
	}
	if got := impl.RecsOf(text); !reflect.DeepEqual(got, impl.RecsOut{Code: code}) {
		t.Errorf("%s: RecsOf: got %+v, want code %d alone", what, got, code)
	}
}

// wantRecs: RecsOf of text is these, with so many bytes and this code.
func wantRecs(t *testing.T, what string, text string, recs []impl.Rec, used int, code int64) {
	t.Helper()
	got := impl.RecsOf(text)
	if got.Code != code || got.Used != int64(used) || !slices.EqualFunc(got.List, recs, sameRec) {
		t.Errorf("%s: got %d records, %d bytes, code %d; want %d, %d, %d", what, len(got.List), got.Used, got.Code, len(recs), used, code)
	}
}

func TestRecRightAtItsEdges(t *testing.T) {
	for _, r := range rightRecs() {
		if !impl.RecRight(r) {
			t.Errorf("%+v should be right", r)
		}
	}
	for _, r := range wrongRecs() {
		if impl.RecRight(r) {
			t.Errorf("%+v should be wrong", r)
		}
		if got := impl.RecBytes(r); got != "" {
			t.Errorf("RecBytes of %+v: got %q, want none", r, got)
		}
	}
}

func TestNumBytesAtItsEdges(t *testing.T) {
	told := []struct {
		n    int64
		text string
	}{
		{0, "\x00"}, {1, "\x01"}, {127, "\x7f"}, {128, "\x80\x01"}, {300, "\xac\x02"}, {1000, "\xe8\x07"},
		{16383, "\xff\x7f"}, {16384, "\x80\x80\x01"},
		{math.MaxInt64, "\xff\xff\xff\xff\xff\xff\xff\xff\x7f"},
		{-1, ""}, {-128, ""}, {math.MinInt64, ""},
	}
	for _, c := range told {
		if got := impl.NumBytes(c.n); got != c.text {
			t.Errorf("NumBytes(%d): got %q, want %q", c.n, got, c.text)
		}
	}
	for shift := range 63 {
		for _, n := range []int64{1<<shift - 1, 1 << shift, 1<<shift + 1} {
			if got, want := impl.NumBytes(n), string(binary.AppendUvarint(nil, uint64(n))); got != want {
				t.Errorf("NumBytes(%d): got %q, want %q", n, got, want)
			}
		}
	}
}

func TestRecSumGoesByteByByte(t *testing.T) {
	texts := []string{
		"", "\x00", "\xff", "\x04\x01", "record", strings.Repeat("\x00", 100),
		"é", "\xc3", "\xa9", "日本", "\xe6\x97", "\U0001f4fb", "\xf0\x9f\x93", "\uFFFD", "\xef\xbf", "a\uFFFDb\xffc",
		strings.Repeat("\xff", impl.MaxBytes), strings.Repeat("日\xff", impl.MaxBytes/4),
	}
	random := rand.New(rand.NewSource(5))
	for range 200 {
		text := make([]byte, random.Intn(40))
		for i := range text {
			// Half of them make whole runes of two bytes, so that none may be passed by.
			text[i] = byte(random.Intn(256))
			if i > 0 && random.Intn(2) == 0 {
				text[i-1], text[i] = 0xc3, byte(128+random.Intn(64))
			}
		}
		texts = append(texts, string(text))
	}
	for _, text := range texts {
		if got, want := impl.RecSum(text), sumByHand(text); got != want {
			t.Errorf("RecSum of %d bytes %.20q: got %d, want %d", len(text), text, got, want)
		}
	}
	if got := impl.RecSum(""); got != 1 {
		t.Errorf("RecSum of nothing: got %d, want 1", got)
	}
	if got := impl.RecSum(strings.Repeat("a", impl.MaxBytes+1)); got != 0 {
		t.Errorf("RecSum of too long a text: got %d, want 0", got)
	}
}

// Promise 4: what is written is what the chapter says, and comes back, alone or with more behind it.
func TestRecordComesBack(t *testing.T) {
	for _, r := range rightRecs() {
		text := impl.RecBytes(r)
		if want := bytesByHand(r); text != want {
			t.Fatalf("RecBytes of %+v: got %q, want %q", r, text, want)
		}
		wantRead(t, "alone", text, r, len(text))
		wantRead(t, "with more", text+"R\x80", r, len(text))
		wantRead(t, "with one more", text+text, r, len(text))
		wantRead(t, "filled up", text+strings.Repeat("x", impl.MaxBytes-len(text)), r, len(text))
	}
}

// Promise 4: a text that ends at any of its bytes gives all records that are whole.
func TestRecordsComeBackOfWhatBreaksOff(t *testing.T) {
	recs := rightRecs()[:11]
	text, ends := "", []int{0}
	for _, r := range recs {
		text += impl.RecBytes(r)
		ends = append(ends, len(text))
	}
	whole := 0
	for size := range len(text) + 1 {
		if whole+1 < len(ends) && ends[whole+1] == size {
			whole++
		}
		code := int64(impl.ErrShort)
		if ends[whole] == size {
			code = impl.OK
		}
		wantRecs(t, "broken off", text[:size], recs[:whole], ends[whole], code)
	}
	wantRecs(t, "another byte behind", text+"x", recs, len(text), impl.ErrNone)
	wantRecs(t, "a long length behind", text+"R\x80\x00", recs, len(text), impl.ErrSyntax)
	wantRecs(t, "no right one behind", text+sealedBody("\x00\x00")+text, recs, len(text), impl.ErrSyntax)
	wantRecs(t, "a wrong sum behind", text+"R\x02\x01\x00abcd"+text, recs, len(text), impl.ErrSum)
}

func TestTextsOfMaxBytes(t *testing.T) {
	r := impl.Rec{Kind: 1, Nums: []int64{1, -1}}
	one := impl.RecBytes(r)
	if impl.MaxBytes%len(one) != 0 {
		t.Fatalf("a record of %d bytes does not fill the text", len(one))
	}
	count := impl.MaxBytes / len(one)
	text := strings.Repeat(one, count)
	wantRecs(t, "full", text, slices.Repeat([]impl.Rec{r}, count), len(text), impl.OK)
	wantRecs(t, "one less", text[:len(text)-1], slices.Repeat([]impl.Rec{r}, count-1), len(text)-len(one), impl.ErrShort)
	wantRead(t, "full", text, r, len(one))
	wantFault(t, "one more", text+"R", impl.ErrSize)
	wantFault(t, "one more, with no record", strings.Repeat("x", impl.MaxBytes+1), impl.ErrSize)
	wantFault(t, "full, with no record", strings.Repeat("x", impl.MaxBytes), impl.ErrNone)
}

func TestRecsOfNothing(t *testing.T) {
	if got := impl.RecsOf(""); !reflect.DeepEqual(got, impl.RecsOut{}) {
		t.Errorf("got %+v, want nothing", got)
	}
	wantFault(t, "empty", "", impl.ErrNone)
}

// Promise 5: every other byte, in every place behind those of the length, makes the sum wrong.
func TestTurnedByteIsAWrongSum(t *testing.T) {
	t.Parallel()
	for _, r := range rightRecs()[:20] {
		text := impl.RecBytes(r)
		head := 1 + len(lengthOf(len(bodyByHand(uint64(r.Kind), uint64(len(r.Nums)), r.Nums...))))
		for at := range text {
			for turn := 1; turn < 256; turn++ {
				turned := []byte(text)
				turned[at] ^= byte(turn)
				got := impl.RecRead(string(turned))
				switch {
				case at == 0 && got.Code != impl.ErrNone:
					t.Fatalf("another first byte: got %+v", got)
				case at > 0 && got.Code == impl.OK:
					t.Fatalf("byte %d turned by %d is read: %+v", at, turn, got)
				case at >= head && !reflect.DeepEqual(got, impl.RecOut{Code: impl.ErrSum}):
					t.Fatalf("byte %d turned by %d: got %+v, want a wrong sum alone", at, turn, got)
				}
			}
		}
	}
}

// A sum is held as it is told, not modulo its bound: this record has the sum 0, which 4294967291 is not.
func TestSumBeyondItsBound(t *testing.T) {
	r := impl.Rec{Kind: 21, Nums: []int64{1226, 3538}}
	text := impl.RecBytes(r)
	head, end := text[:len(text)-4], text[len(text)-4:]
	if end != "\x00\x00\x00\x00" {
		t.Fatalf("the sum of %+v is told by %q", r, end)
	}
	wantRead(t, "a sum of 0", text, r, len(text))
	wantFault(t, "a sum beyond its bound", head+"\xff\xff\xff\xfb", impl.ErrSum)
}

func TestRecReadOfATextThatEnds(t *testing.T) {
	for _, r := range rightRecs() {
		text := impl.RecBytes(r)
		for size := 1; size < len(text); size++ {
			wantFault(t, "ends", text[:size], impl.ErrShort)
		}
	}
	for b := range 256 {
		code := int64(impl.ErrNone)
		if b == 'R' {
			code = impl.ErrShort
		}
		wantFault(t, "first byte", string([]byte{byte(b)}), code)
		wantFault(t, "first byte and no more than a length", string([]byte{byte(b), 5}), code)
		wantFault(t, "one byte of a length", string([]byte{'R', byte(b)}), impl.ErrShort)
	}
}

func TestRecReadOfLengths(t *testing.T) {
	// The first fault is named: a length too great or too long ahead of bytes that are not there.
	faults := []struct {
		what string
		text string
		code int64
	}{
		{"1000, nothing there", "R" + lengthOf(1000), impl.ErrShort},
		{"1000, one byte less than is asked for", "R" + lengthOf(1000) + strings.Repeat("R", 1003), impl.ErrShort},
		{"1000, another sum", "R" + lengthOf(1000) + strings.Repeat("R", 1004), impl.ErrSum},
		{"1000, no right one", sealedBody(strings.Repeat("\x01", 1000)), impl.ErrSyntax},
		{"1001, nothing there", "R" + lengthOf(1001), impl.ErrSyntax},
		{"1001, another sum", "R" + lengthOf(1001) + strings.Repeat("R", 1005), impl.ErrSyntax},
		{"1001, right sum", sealedBody(strings.Repeat("\x01", 1001)), impl.ErrSyntax},
		{"16383", "R\xff\x7f", impl.ErrSyntax},
		{"16384", "R\x80\x80\x01", impl.ErrSyntax},
		{"three bytes, two of them there", "R\x80\x80", impl.ErrSyntax},
		{"0 by two bytes", "R\x80\x00", impl.ErrSyntax},
		{"4 by two bytes", sealed("\x84\x00", "\x01\x02\x02\x01"), impl.ErrSyntax},
		{"4 by three bytes", sealed("\x84\x80\x00", "\x01\x02\x02\x01"), impl.ErrSyntax},
		{"127 by two bytes", "R\xff\x00", impl.ErrSyntax},
		{"0, nothing there", "R\x00", impl.ErrShort},
		{"0, three bytes of a sum", "R\x00abc", impl.ErrShort},
		{"0, another sum", "R\x00abcd", impl.ErrSum},
		{"0, right sum", sealedBody(""), impl.ErrSyntax},
		{"127, nothing there", "R\x7f", impl.ErrShort},
		{"128, nothing there", "R\x80\x01", impl.ErrShort},
	}
	for _, c := range faults {
		wantFault(t, c.what, c.text, c.code)
	}
}

// Bodies whose sum is right though they tell no right record.
func TestRecReadOfSealedBodies(t *testing.T) {
	whole := bodyByHand(1, 2, 1, -1)
	wantRead(t, "as it should be", sealedBody(whole), impl.Rec{Kind: 1, Nums: []int64{1, -1}}, 10)
	bodies := map[string]string{
		"Kind alone":                       "\x01",
		"Kind broken off":                  "\x81",
		"count broken off":                 "\x01\x80",
		"a byte left over":                 whole + "\x00",
		"a number left over":               whole + "\x80\x01",
		"half a number left over":          whole + "\x80",
		"one Num less":                     bodyByHand(1, 2, 1),
		"one Num more":                     bodyByHand(1, 2, 1, 1, 1),
		"no Num of one":                    bodyByHand(1, 1),
		"a Num of none":                    bodyByHand(1, 0, 0),
		"Num broken off":                   bodyByHand(1, 1) + "\x80",
		"Kind by two bytes":                "\x81\x00\x00",
		"count by two bytes":               "\x01\x80\x00",
		"count of one by two bytes":        "\x01\x81\x00\x00",
		"Num by two bytes":                 "\x01\x01\x82\x00",
		"Num of nought by two bytes":       "\x01\x01\x80\x00",
		"Num by nine bytes":                "\x01\x01\x82\x80\x80\x80\x80\x80\x80\x80\x00",
		"Num by ten bytes":                 "\x01\x01\x82\x80\x80\x80\x80\x80\x80\x80\x80\x01",
		"Num by eleven bytes":              "\x01\x01\x82\x80\x80\x80\x80\x80\x80\x80\x80\x80\x00",
		"Num by twenty bytes":              "\x01\x01\x82" + strings.Repeat("\x80", 18) + "\x01",
		"Kind of 0":                        bodyByHand(0, 0),
		"Kind of 101":                      bodyByHand(101, 0),
		"Kind of 257":                      bodyByHand(257, 0),
		"Kind of the greatest number":      bodyByHand(math.MaxInt64, 0),
		"Kind beyond 63 bits":              bodyByHand(math.MaxUint64, 0),
		"Kind of 1 beyond 64 bits":         "\x81\x80\x80\x80\x80\x80\x80\x80\x80\x02\x00",
		"count beyond 63 bits":             bodyByHand(1, math.MaxUint64),
		"one Num too many":                 bodyByHand(1, impl.MaxNums+1, manyNums(impl.MaxNums+1, 0)...),
		"a Num one beyond the greatest":    bodyByHand(1, 1, impl.MaxNum+1),
		"a Num one beyond the least":       bodyByHand(1, 1, -impl.MaxNum-1),
		"the last Num beyond the greatest": bodyByHand(1, 3, 0, 0, impl.MaxNum+1),
		"the last Num beyond the least":    bodyByHand(1, 3, 0, 0, -impl.MaxNum-1),
		"a Num of half of 63 bits":         bodyByHand(1, 1, math.MaxInt64/2),
		"the greatest of int64":            bodyByHand(1, 1, math.MaxInt64),
		"the least of int64":               bodyByHand(1, 1, math.MinInt64),
	}
	for what, body := range bodies {
		wantFault(t, what, sealedBody(body), impl.ErrSyntax)
		turned := []byte(sealedBody(body))
		turned[len(turned)-1] ^= 1
		wantFault(t, what+", and a wrong sum", string(turned), impl.ErrSum)
	}
}

// Whatever is read is just what would be written.
func TestRecReadOfAnyText(t *testing.T) {
	random := rand.New(rand.NewSource(3))
	read := 0
	for range 30000 {
		body := make([]byte, random.Intn(9))
		for i := range body {
			body[i] = byte(random.Intn(4))
			if random.Intn(4) == 0 {
				body[i] = byte(random.Intn(256))
			}
		}
		text := sealedBody(string(body)) + "R"
		if random.Intn(8) == 0 {
			text = text[random.Intn(len(text)):]
		}
		got := impl.RecRead(text)
		if got.Code != impl.OK {
			if !reflect.DeepEqual(got, impl.RecOut{Code: got.Code}) {
				t.Fatalf("RecRead of %q: got %+v beside a fault", text, got)
			}
			continue
		}
		read++
		if written := impl.RecBytes(got.Rec); written != text[:got.Used] || written == "" {
			t.Fatalf("RecRead of %q: got %+v, which is written as %q", text, got, written)
		}
	}
	if read < 100 {
		t.Errorf("only %d texts were read", read)
	}
}

func TestRecordsAreNewMemory(t *testing.T) {
	r := impl.Rec{Kind: 1, Nums: []int64{5, -6, 7}}
	text := impl.RecBytes(r)
	if !sameRec(r, impl.Rec{Kind: 1, Nums: []int64{5, -6, 7}}) {
		t.Fatalf("RecBytes changed its argument: %+v", r)
	}
	got := impl.RecsOf(text + text + text)
	for i := range got.List {
		// A list that reached into the next one would be seen there.
		nums := append(got.List[i].Nums[:3], 0, 0, 0, 0)
		for j := range nums {
			nums[j] = 99
		}
		for k := i + 1; k < len(got.List); k++ {
			if !sameRec(got.List[k], r) {
				t.Fatalf("record %d shares memory with record %d", i, k)
			}
		}
	}
	wantRead(t, "read again", text, r, len(text))
}
