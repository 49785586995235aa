package money

import (
	"math"
	"strconv"
	"strings"

	"lading/api"
)

// Text writes an amount.
func Text(n int64) string {
	a := amount(n)
	cents := strconv.FormatUint(100+a%100, 10)[1:] // the 100 keeps a nought in front
	text := strconv.FormatUint(a/100, 10) + "." + cents
	if n < 0 {
		return "-" + text
	}
	return text
}

// Parse reads what Text writes, and nothing else.
func Parse(s string) (int64, api.Errno) {
	body, below := strings.CutPrefix(s, "-")
	whole, cents, _ := strings.Cut(body, ".")
	if !isWhole(whole) || len(cents) != 2 || !areDigits(cents) {
		return 0, api.ErrSyntax
	}
	a, ok := readAmount(whole + cents)
	if !ok {
		return 0, api.ErrOver
	}
	if below && a == 0 {
		return 0, api.ErrSyntax
	}
	return signed(a, below)
}

// isWhole tells whether a text is digits without needless noughts.
func isWhole(s string) bool {
	return areDigits(s) && (s == "0" || s[0] != '0')
}

// areDigits tells whether a text has digits, and nothing else. Digits of other scripts are none.
func areDigits(s string) bool {
	for _, r := range s {
		if !isDigit(r) {
			return false
		}
	}
	return s != ""
}

func isDigit(r rune) bool { return '0' <= r && r <= '9' }

// readAmount is the number of some digits, unless it is far beyond an int64 (signed tells of those that are near).
func readAmount(digits string) (uint64, bool) {
	var n uint64
	for _, r := range digits {
		if n > math.MaxInt64/10 { // a digit more is beyond every int64, and might go round
			return 0, false
		}
		n = n*10 + uint64(r-'0')
	}
	return n, true
}
