// Package money reckons in minor units, checked: see ../../shared/DOC.md and doc/01-money.md.
package money

import (
	"math"
	"math/bits"

	"lading/api"
)

// Add is a + b, if that is an int64.
func Add(a, b int64) (int64, api.Errno) { return sumUp(a, b) }

// Sub is a - b, if that is an int64. -b may be none where a - b is one; ^b and 1 sum up to it and are always there.
func Sub(a, b int64) (int64, api.Errno) { return sumUp(a, ^b, 1) }

// Mul is a times b, if that is an int64.
func Mul(a, b int64) (int64, api.Errno) {
	high, low := bits.Mul64(amount(a), amount(b))
	if high != 0 {
		return 0, api.ErrOver
	}
	return signed(low, (a < 0) != (b < 0))
}

// Sum is that of all numbers of a list.
func Sum(l []int64) (int64, api.Errno) {
	if len(l) > api.MaxList {
		return 0, api.ErrMany
	}
	return sumUp(l...)
}

// Total is what lines come to.
func Total(l []api.Line) (int64, api.Errno) {
	if len(l) > api.MaxLines {
		return 0, api.ErrMany
	}
	prices := make([]int64, 0, len(l))
	for _, x := range l {
		if x.Qty < 1 || x.Qty > api.MaxQty || x.Unit < 0 || x.Unit > api.MaxUnit {
			return 0, api.ErrRange
		}
		prices = append(prices, x.Qty*x.Unit) // at most 2^60 within these limits
	}
	return sumUp(prices...)
}

// Share has a share of total for each weight.
func Share(total int64, weights []int64) ([]int64, api.Errno) {
	if len(weights) > api.MaxList {
		return nil, api.ErrMany
	}
	if total < 0 || !areWeights(weights) {
		return nil, api.ErrRange
	}
	all, why := sumUp(weights...)
	if why != api.OK {
		return nil, why
	}
	shares := make([]int64, len(weights))
	left := total
	for i, w := range weights {
		shares[i] = part(total, w, all)
		left -= shares[i]
	}
	handOut(left, shares, weights)
	return shares, api.OK
}

// sumUp sums up in 128 bits, since what sums of some are is no matter.
func sumUp(summands ...int64) (int64, api.Errno) {
	var high, low, carry uint64
	for _, n := range summands {
		low, carry = bits.Add64(low, uint64(n), 0)
		high, _ = bits.Add64(high, uint64(n>>63), carry)
	}
	if high != uint64(int64(low)>>63) {
		return 0, api.ErrOver
	}
	return int64(low), api.OK
}

// amount is n without its sign: that of the least int64 is there only as a uint64.
func amount(n int64) uint64 {
	if n < 0 {
		return -uint64(n)
	}
	return uint64(n)
}

// signed is the number of an amount, below 0 or not, if that is an int64.
func signed(size uint64, below bool) (int64, api.Errno) {
	if below && size <= 1<<63 {
		return int64(-size), api.OK
	}
	if !below && size <= math.MaxInt64 {
		return int64(size), api.OK
	}
	return 0, api.ErrOver
}

// areWeights tells whether no weight is below 0, and one above.
func areWeights(weights []int64) bool {
	some := false
	for _, w := range weights {
		if w < 0 {
			return false
		}
		some = some || w > 0
	}
	return some
}

// part is total times weight by all, rounded down. The weight being at most all, the quotient is at most total, as Div64 needs it.
func part(total, weight, all int64) int64 {
	high, low := bits.Mul64(uint64(total), uint64(weight))
	quotient, _ := bits.Div64(high, low, uint64(all))
	return int64(quotient)
}

// handOut gives what is left, one each, to the first shares that have a weight: rounding down leaves less than one for each of these.
func handOut(left int64, shares, weights []int64) {
	for i, w := range weights {
		if left > 0 && w > 0 {
			shares[i]++
			left--
		}
	}
}
