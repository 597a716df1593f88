package tests

import (
	"fmt"
	"math"
	"math/big"
	"reflect"
	"strings"
	"testing"

	"loop.example/g00144/impl"
)

const most = impl.MaxMoney

// moneyEdges: numbers around each bound that the chapter names, in and out of them.
func moneyEdges() []int64 {
	out := []int64{math.MinInt64, math.MinInt64 + 1, math.MaxInt64, math.MaxInt64 - 1, -1 << 32, 1 << 32, 3037000500}
	for _, v := range []int64{0, 1, 2, 3, 7, 99, 100, 101, 999999, 1000000, 1000001, most / 3, most / 2, most - 1, most, most + 1, 2 * most} {
		out = append(out, v, -v)
	}
	return out
}

func isMoney(v int64) bool {
	return -most <= v && v <= most
}

func sameMoney(t *testing.T, what string, got impl.MoneyOut, want impl.MoneyOut) {
	t.Helper()
	if got != want {
		t.Errorf("%s: got %+v, want %+v", what, got, want)
	}
}

// wantMoney: an exact number as an answer, or ErrOver where it is no money.
func wantMoney(exact *big.Int) impl.MoneyOut {
	if exact.CmpAbs(big.NewInt(most)) > 0 {
		return impl.MoneyOut{Code: impl.ErrOver}
	}
	return impl.MoneyOut{V: exact.Int64()}
}

// Promise 1: each answer is held against one of unbounded numbers.
func TestMoneyIsExact(t *testing.T) {
	calls := []struct {
		name  string
		call  func(int64, int64) impl.MoneyOut
		exact func(*big.Int, *big.Int, *big.Int) *big.Int
	}{
		{"MoneyAdd", impl.MoneyAdd, (*big.Int).Add},
		{"MoneySub", impl.MoneySub, (*big.Int).Sub},
		{"MoneyMul", impl.MoneyMul, (*big.Int).Mul},
	}
	for _, c := range calls {
		for _, a := range moneyEdges() {
			for _, b := range moneyEdges() {
				want := impl.MoneyOut{Code: impl.ErrForm}
				if isMoney(a) && isMoney(b) {
					want = wantMoney(c.exact(new(big.Int), big.NewInt(a), big.NewInt(b)))
				}
				sameMoney(t, fmt.Sprint(c.name, " ", a, " ", b), c.call(a, b), want)
			}
		}
	}
}

// Promise 1: the edges by hand, so that no mistake of the numbers above hides one.
func TestMoneyEdges(t *testing.T) {
	form := impl.MoneyOut{Code: impl.ErrForm}
	over := impl.MoneyOut{Code: impl.ErrOver}
	sameMoney(t, "add to the bound", impl.MoneyAdd(most-1, 1), impl.MoneyOut{V: most})
	sameMoney(t, "add beyond", impl.MoneyAdd(most, 1), over)
	sameMoney(t, "add beyond below", impl.MoneyAdd(-most, -1), over)
	sameMoney(t, "add none ahead of over", impl.MoneyAdd(most+1, most), form)
	sameMoney(t, "add none that would be money", impl.MoneyAdd(most+1, -1), form)
	sameMoney(t, "add none behind", impl.MoneyAdd(-1, most+1), form)
	sameMoney(t, "sub to the bound", impl.MoneySub(1-most, 1), impl.MoneyOut{V: -most})
	sameMoney(t, "sub beyond", impl.MoneySub(-most, 1), over)
	sameMoney(t, "sub beyond above", impl.MoneySub(most, -1), over)
	sameMoney(t, "sub none", impl.MoneySub(0, -most-1), form)
	sameMoney(t, "sub wraps round", impl.MoneySub(math.MinInt64, math.MaxInt64), form)
	sameMoney(t, "mul to the bound", impl.MoneyMul(-1000000, 1000000), impl.MoneyOut{V: -most})
	sameMoney(t, "mul two below 0", impl.MoneyMul(-1000000, -1000000), impl.MoneyOut{V: most})
	sameMoney(t, "mul beyond", impl.MoneyMul(1000001, -1000000), over)
	// 10001 times 99990001 is MaxMoney and 1.
	sameMoney(t, "mul one beyond", impl.MoneyMul(10001, 99990001), over)
	sameMoney(t, "mul one beyond below", impl.MoneyMul(-99990001, 10001), over)
	sameMoney(t, "mul all", impl.MoneyMul(-most, -most), over)
	sameMoney(t, "mul whose low half is nought", impl.MoneyMul(1<<32, 1<<32), over)
	sameMoney(t, "mul by none", impl.MoneyMul(0, most+1), form)
	sameMoney(t, "mul by 0", impl.MoneyMul(-most, 0), impl.MoneyOut{})
}

// Promises 1 and 2: the quotient of unbounded numbers, for all edges of the three.
func TestMulDivIsExact(t *testing.T) {
	for _, a := range moneyEdges() {
		for _, b := range moneyEdges() {
			for _, c := range moneyEdges() {
				want := impl.MoneyOut{Code: impl.ErrForm}
				if 0 <= a && a <= most && 0 <= b && b <= most && 1 <= c && c <= most {
					product := new(big.Int).Mul(big.NewInt(a), big.NewInt(b))
					want = wantMoney(product.Quo(product, big.NewInt(c)))
				}
				sameMoney(t, fmt.Sprint("MulDiv ", a, " ", b, " ", c), impl.MulDiv(a, b, c), want)
			}
		}
	}
}

// Promise 2: just at the bound, and one beyond, with products of more than 64 bits.
func TestMulDivEdges(t *testing.T) {
	form := impl.MoneyOut{Code: impl.ErrForm}
	over := impl.MoneyOut{Code: impl.ErrOver}
	sameMoney(t, "down", impl.MulDiv(7, 3, 4), impl.MoneyOut{V: 5})
	sameMoney(t, "whole", impl.MulDiv(8, 3, 4), impl.MoneyOut{V: 6})
	sameMoney(t, "below one", impl.MulDiv(1, 1, 2), impl.MoneyOut{})
	sameMoney(t, "all three greatest", impl.MulDiv(most, most, most), impl.MoneyOut{V: most})
	sameMoney(t, "a wide one down", impl.MulDiv(most-1, most-1, most), impl.MoneyOut{V: most - 2})
	sameMoney(t, "a wide one over", impl.MulDiv(most, most, most-1), over)
	sameMoney(t, "the widest", impl.MulDiv(most, most, 1), over)
	sameMoney(t, "rounded down onto the bound", impl.MulDiv(666666666667, 3, 2), impl.MoneyOut{V: most})
	sameMoney(t, "just over the bound", impl.MulDiv(666666666668, 3, 2), over)
	sameMoney(t, "one beyond the bound", impl.MulDiv(10001, 99990001, 1), over)
	sameMoney(t, "nought", impl.MulDiv(0, most, 1), impl.MoneyOut{})
	sameMoney(t, "by 0", impl.MulDiv(1, 1, 0), form)
	sameMoney(t, "a below 0", impl.MulDiv(-1, 1, 1), form)
	sameMoney(t, "b below 0", impl.MulDiv(1, -1, 1), form)
	sameMoney(t, "c below 0", impl.MulDiv(1, 1, -1), form)
	sameMoney(t, "a beyond", impl.MulDiv(most+1, 0, 1), form)
	sameMoney(t, "b beyond", impl.MulDiv(0, most+1, 1), form)
	sameMoney(t, "c beyond", impl.MulDiv(0, 0, most+1), form)
	sameMoney(t, "none ahead of over", impl.MulDiv(most, most, 0), form)
}

// Promise 3: money comes back from its text.
func TestMoneyComesBack(t *testing.T) {
	values := moneyEdges()
	for v := int64(-12345); v <= 12345; v++ {
		values = append(values, v)
	}
	for _, v := range values {
		text := impl.MoneyText(v)
		if !isMoney(v) {
			if text != "" {
				t.Errorf("MoneyText %d: got %q, want none", v, text)
			}
			continue
		}
		sameMoney(t, fmt.Sprintf("MoneyRead %q", text), impl.MoneyRead(text), impl.MoneyOut{V: v})
	}
}

func TestMoneyText(t *testing.T) {
	wants := []struct {
		v    int64
		text string
	}{
		{0, "0.00"}, {7, "0.07"}, {-7, "-0.07"}, {10, "0.10"}, {99, "0.99"}, {-99, "-0.99"},
		{100, "1.00"}, {-100, "-1.00"}, {-105, "-1.05"}, {1230, "12.30"}, {123456, "1234.56"},
		{most, "10000000000.00"}, {-most, "-10000000000.00"}, {most - 1, "9999999999.99"},
		{most + 1, ""}, {-most - 1, ""}, {math.MinInt64, ""}, {math.MaxInt64, ""},
	}
	for _, w := range wants {
		if got := impl.MoneyText(w.v); got != w.text {
			t.Errorf("MoneyText %d: got %q, want %q", w.v, got, w.text)
		}
		if w.text != "" {
			sameMoney(t, "MoneyRead "+w.text, impl.MoneyRead(w.text), impl.MoneyOut{V: w.v})
		}
	}
}

// Promise 3, wrong inputs: texts that are almost that of money.
func TestMoneyReadRefuses(t *testing.T) {
	texts := []string{
		"", "-", ".", "-.", "0", "1", "12", "100", "1.", "1.0", "1.2", "1.234", "1.000", ".05", "-.05",
		"-0.00", "00.00", "01.00", "-01.05", "007.00", "+1.00", "+0.00", "--1.00", "-+1.00", "1-.00", "1.00-",
		" 1.00", "1.00 ", "1 .00", "1.0 0", "1.00\n", "\t1.00", "1,00", "1..00", "1.0.0", "1.00.", "0x1.00", "1e3.00",
		"1.0a", "a.00", "1.-5", "1.+5", "10000000000.01", "-10000000000.01", "10000000001.00",
		"99999999999.99", "-99999999999.99", "010000000000.00", "92233720368547758.08", "184467440737095517.16",
		"\u0661.00", "1\x00.00", "1.00\x00", "1\u00b700", "-1.0", "-1", "1_0.00",
	}
	for _, text := range texts {
		sameMoney(t, fmt.Sprintf("MoneyRead %q", text), impl.MoneyRead(text), impl.MoneyOut{Code: impl.ErrSyntax})
	}
}

func TestMoneyReadSize(t *testing.T) {
	long := strings.Repeat("0", impl.MaxBytes-4) + "1.00"
	sameMoney(t, "MaxBytes bytes", impl.MoneyRead(long), impl.MoneyOut{Code: impl.ErrSyntax})
	sameMoney(t, "one byte more", impl.MoneyRead("0"+long), impl.MoneyOut{Code: impl.ErrSize})
	sameMoney(t, "one byte more, of no digits", impl.MoneyRead(strings.Repeat("x", impl.MaxBytes+1)), impl.MoneyOut{Code: impl.ErrSize})
}

// Promise 1: sums on the way count, and what is no money is named ahead of them.
func TestMoneySum(t *testing.T) {
	form := impl.MoneyOut{Code: impl.ErrForm}
	over := impl.MoneyOut{Code: impl.ErrOver}
	wants := []struct {
		name string
		list []int64
		want impl.MoneyOut
	}{
		{"none", nil, impl.MoneyOut{}},
		{"an empty one", []int64{}, impl.MoneyOut{}},
		{"one", []int64{-5}, impl.MoneyOut{V: -5}},
		{"some", []int64{5, -7, 12}, impl.MoneyOut{V: 10}},
		{"to the bound", []int64{most - 1, 1}, impl.MoneyOut{V: most}},
		{"to the bound below", []int64{-most, most, -most}, impl.MoneyOut{V: -most}},
		{"over on the way", []int64{most, 1, -1}, over},
		{"over on the way below", []int64{-most, -1, 1}, over},
		{"over at the end", []int64{1, most}, over},
		{"the same in another order", []int64{most, -1, 1}, impl.MoneyOut{V: most}},
		{"no money", []int64{most + 1}, form},
		{"no money below", []int64{0, -most - 1}, form},
		{"no money behind an over", []int64{most, 1, most + 1}, form},
		{"no money that would wrap round", []int64{math.MinInt64, math.MinInt64}, form},
	}
	for _, w := range wants {
		kept := append([]int64(nil), w.list...)
		sameMoney(t, "MoneySum of "+w.name, impl.MoneySum(w.list), w.want)
		if len(kept) > 0 && !reflect.DeepEqual(kept, w.list) {
			t.Errorf("MoneySum of %s: the list is changed to %v", w.name, w.list)
		}
	}
}

func TestMoneySumSize(t *testing.T) {
	list := make([]int64, impl.MaxList)
	for i := range list {
		list[i] = int64(i)
	}
	sameMoney(t, "MaxList items", impl.MoneySum(list), impl.MoneyOut{V: impl.MaxList * (impl.MaxList - 1) / 2})
	sameMoney(t, "one item more", impl.MoneySum(append(list, 0)), impl.MoneyOut{Code: impl.ErrSize})
	sameMoney(t, "one item more, no money", impl.MoneySum(append(list, most+1)), impl.MoneyOut{Code: impl.ErrSize})
}

// Promise 3: the parts are together the money, falling, no two more than 1 apart.
func TestMoneySplitIsWhole(t *testing.T) {
	for _, v := range moneyEdges() {
		for _, n := range []int64{math.MinInt64, -100, -1, 0, 1, 2, 3, 7, 99, 100, 101, 400, math.MaxInt64} {
			parts := impl.MoneySplit(v, n)
			if v < 0 || v > most || n < 1 || n > 100 {
				if len(parts) != 0 {
					t.Errorf("MoneySplit %d %d: got %v, want none", v, n, parts)
				}
				continue
			}
			if int64(len(parts)) != n {
				t.Errorf("MoneySplit %d %d: got %d parts", v, n, len(parts))
				continue
			}
			checkParts(t, v, parts)
		}
	}
}

func checkParts(t *testing.T, v int64, parts []int64) {
	t.Helper()
	sum := int64(0)
	for i, p := range parts {
		sum += p
		if i > 0 && p > parts[i-1] {
			t.Errorf("MoneySplit %d %d: part %d is greater than the one ahead", v, len(parts), i)
		}
	}
	if parts[0]-parts[len(parts)-1] > 1 {
		t.Errorf("MoneySplit %d %d: %d and %d are too far apart", v, len(parts), parts[0], parts[len(parts)-1])
	}
	if sum != v {
		t.Errorf("MoneySplit %d %d: together %d", v, len(parts), sum)
	}
}

func TestMoneySplit(t *testing.T) {
	wants := []struct {
		v, n  int64
		parts []int64
	}{
		{10, 3, []int64{4, 3, 3}},
		{11, 3, []int64{4, 4, 3}},
		{12, 3, []int64{4, 4, 4}},
		{2, 4, []int64{1, 1, 0, 0}},
		{0, 2, []int64{0, 0}},
		{most, 1, []int64{most}},
		{most, 3, []int64{333333333334, 333333333333, 333333333333}},
	}
	for _, w := range wants {
		got := impl.MoneySplit(w.v, w.n)
		if !reflect.DeepEqual(got, w.parts) {
			t.Errorf("MoneySplit %d %d: got %v, want %v", w.v, w.n, got, w.parts)
			continue
		}
		got[0] = -1
		if again := impl.MoneySplit(w.v, w.n); !reflect.DeepEqual(again, w.parts) {
			t.Errorf("MoneySplit %d %d: the answer shares memory with an earlier one", w.v, w.n)
		}
	}
}
