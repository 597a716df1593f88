package impl

import (
	"math/bits"
	"strconv"
)

// Constants, see chapter 1.
const (
	OK            = 0
	ErrForm       = 1
	ErrSize       = 2
	ErrSyntax     = 3
	ErrOver       = 4
	ErrSum        = 5
	ErrShort      = 6
	ErrNone       = 7
	ErrState      = 8
	ErrInfeasible = 9
	ErrFull       = 10
	MaxBytes      = 20000
	MaxList       = 400
	MaxMoney      = 1000000000000
	Yes           = 1
	No            = 2
	Unknown       = 3
)

// maxParts is the greatest number of parts that money is split into.
const maxParts = 100

// maxMoneyText is the length of the longest text of money, that of -MaxMoney.
const maxMoneyText = len("-10000000000.00")

// MoneyOut is a thing of chapter 2.
type MoneyOut struct {
	V    int64
	Code int64
}

// amount is a number that is asked for its bounds.
type amount int64

func (a amount) isMoney() bool {
	return a >= -MaxMoney && a <= MaxMoney
}

func (a amount) isFromNought() bool {
	return a >= 0 && a <= MaxMoney
}

func (a amount) isFromOne() bool {
	return a >= 1 && a <= MaxMoney
}

func (a amount) isPartCount() bool {
	return a >= 1 && a <= maxParts
}

// moneyBound names a check by its place in the table of inBound.
type moneyBound int

const (
	anyMoney moneyBound = iota
	moneyFromNought
	moneyFromOne
	partCount
)

// inBound tells if v passes the check that b names.
func inBound(b moneyBound, v int64) bool {
	checks := [...]func(amount) bool{
		anyMoney:        amount.isMoney,
		moneyFromNought: amount.isFromNought,
		moneyFromOne:    amount.isFromOne,
		partCount:       amount.isPartCount,
	}
	return checks[b](amount(v))
}

// wide is a number of 128 bits: the product of two amounts of money may have up to 80.
type wide struct {
	high uint64
	low  uint64
}

// wideProduct is exact, whatever a and b are.
func wideProduct(a uint64, b uint64) wide {
	high, low := bits.Mul64(a, b)
	return wide{high: high, low: low}
}

// below tells if w is the lesser one of the two.
func (w wide) below(other wide) bool {
	if w == other {
		return false
	}
	if w.high != other.high {
		return w.high < other.high
	}
	return w.low < other.low
}

// magnitude is v without its sign; v is in the bounds of money, so that -v is there.
func magnitude(v int64) uint64 {
	if v < 0 {
		return uint64(-v)
	}
	return uint64(v)
}

// moneyOrOver is v, if that is money; v comes from few enough amounts to be in int64.
func moneyOrOver(v int64) MoneyOut {
	if !inBound(anyMoney, v) {
		return MoneyOut{Code: ErrOver}
	}
	return MoneyOut{V: v}
}

// MoneyAdd: see chapter 2.
func MoneyAdd(a int64, b int64) MoneyOut {
	if !inBound(anyMoney, a) || !inBound(anyMoney, b) {
		return MoneyOut{Code: ErrForm}
	}
	return moneyOrOver(a + b)
}

// MoneySub: see chapter 2.
func MoneySub(a int64, b int64) MoneyOut {
	if !inBound(anyMoney, a) || !inBound(anyMoney, b) {
		return MoneyOut{Code: ErrForm}
	}
	return moneyOrOver(a - b)
}

// MoneyMul: see chapter 2.
func MoneyMul(a int64, n int64) MoneyOut {
	if !inBound(anyMoney, a) || !inBound(anyMoney, n) {
		return MoneyOut{Code: ErrForm}
	}
	product := wideProduct(magnitude(a), magnitude(n))
	greatest := wide{low: MaxMoney}
	if greatest.below(product) {
		return MoneyOut{Code: ErrOver}
	}
	if (a < 0) != (n < 0) {
		return MoneyOut{V: -int64(product.low)}
	}
	return MoneyOut{V: int64(product.low)}
}

// MulDiv: see chapter 2.
func MulDiv(a int64, b int64, c int64) MoneyOut {
	if !inBound(moneyFromNought, a) || !inBound(moneyFromNought, b) || !inBound(moneyFromOne, c) {
		return MoneyOut{Code: ErrForm}
	}
	product := wideProduct(uint64(a), uint64(b))
	tooGreat := wideProduct(MaxMoney+1, uint64(c))
	if !product.below(tooGreat) {
		return MoneyOut{Code: ErrOver}
	}
	// Below tooGreat the quotient is money, so Div64, which panics beyond 64 bits, may be asked.
	quotient, _ := bits.Div64(product.high, product.low, uint64(c))
	return MoneyOut{V: int64(quotient)}
}

// MoneyText: see chapter 2.
func MoneyText(v int64) string {
	if !inBound(anyMoney, v) {
		return ""
	}
	sign := ""
	if v < 0 {
		sign = "-"
	}
	size := magnitude(v)
	cents := strconv.FormatUint(size%100, 10)
	if len(cents) < 2 {
		cents = "0" + cents
	}
	return sign + strconv.FormatUint(size/100, 10) + "." + cents
}

// digitsValue is the number that the digits of a short text make, all other bytes passed by.
func digitsValue(text string) int64 {
	value := int64(0)
	for i := range len(text) {
		if text[i] >= '0' && text[i] <= '9' {
			value = 10*value + int64(text[i]-'0')
		}
	}
	return value
}

// MoneyRead: see chapter 2.
func MoneyRead(text string) MoneyOut {
	if len(text) > MaxBytes {
		return MoneyOut{Code: ErrSize}
	}
	if text == "" || len(text) > maxMoneyText {
		return MoneyOut{Code: ErrSyntax}
	}
	value := digitsValue(text)
	if text[0] == '-' {
		value = -value
	}
	// Only the one text that money has is read: it is held against what would be told.
	if MoneyText(value) != text {
		return MoneyOut{Code: ErrSyntax}
	}
	return MoneyOut{V: value}
}

// allMoney tells if each one of list is money.
func allMoney(list []int64) bool {
	for _, v := range list {
		if !inBound(anyMoney, v) {
			return false
		}
	}
	return true
}

// MoneySum: see chapter 2.
func MoneySum(list []int64) MoneyOut {
	if len(list) > MaxList {
		return MoneyOut{Code: ErrSize}
	}
	// One that is no money is named ahead of a sum that is none, wherever the two stand.
	if !allMoney(list) {
		return MoneyOut{Code: ErrForm}
	}
	sum := MoneyOut{}
	for _, v := range list {
		sum = MoneyAdd(sum.V, v)
		if sum.Code != OK {
			return sum
		}
	}
	return sum
}

// MoneySplit: see chapter 2.
func MoneySplit(v int64, n int64) []int64 {
	if !inBound(moneyFromNought, v) || !inBound(partCount, n) {
		return nil
	}
	parts := make([]int64, n)
	least, greater := v/n, v%n
	for i := range parts {
		parts[i] = least
		if int64(i) < greater {
			parts[i]++
		}
	}
	return parts
}
