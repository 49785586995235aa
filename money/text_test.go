package money_test

import (
	"math"
	"math/big"
	"strings"
	"testing"

	"lading/api"
	"lading/money"
)

// Promise 1.4: texts that are.
func TestText(t *testing.T) {
	cases := []struct {
		n int64
		s string
	}{
		{0, "0.00"},
		{1, "0.01"},
		{-1, "-0.01"},
		{-5, "-0.05"},
		{10, "0.10"},
		{99, "0.99"},
		{100, "1.00"},
		{-100, "-1.00"},
		{101, "1.01"},
		{1230, "12.30"},
		{1000, "10.00"},
		{100000, "1000.00"},
		{math.MaxInt64, "92233720368547758.07"},
		{math.MinInt64 + 1, "-92233720368547758.07"},
		{math.MinInt64, "-92233720368547758.08"},
	}
	for _, c := range cases {
		if s := money.Text(c.n); s != c.s {
			t.Errorf("Text(%d) = %q; want %q", c.n, s, c.s)
		}
		if n, why := money.Parse(c.s); n != c.n || why != api.OK {
			t.Errorf("Parse(%q) = %d, error %d; want %d", c.s, n, why, c.n)
		}
	}
}

// Promise 1.4: texts that are none, with 0 beside the error (P2).
func TestParseWrong(t *testing.T) {
	long := strings.Repeat("9", 100000)
	cases := []struct {
		s   string
		why api.Errno
	}{
		{"", api.ErrSyntax},
		{"-", api.ErrSyntax},
		{".", api.ErrSyntax},
		{"-.", api.ErrSyntax},
		{"0", api.ErrSyntax},
		{"12", api.ErrSyntax},
		{"1.", api.ErrSyntax},
		{"1.2", api.ErrSyntax},
		{"1.234", api.ErrSyntax},
		{".05", api.ErrSyntax},
		{"-.05", api.ErrSyntax},
		{"-0.00", api.ErrSyntax},
		{"-00.00", api.ErrSyntax},
		{"00.00", api.ErrSyntax},
		{"01.00", api.ErrSyntax},
		{"-01.00", api.ErrSyntax},
		{"--1.00", api.ErrSyntax},
		{"+1.00", api.ErrSyntax},
		{"1.00-", api.ErrSyntax},
		{" 1.00", api.ErrSyntax},
		{"1.00 ", api.ErrSyntax},
		{"1.00\n", api.ErrSyntax},
		{"1 .00", api.ErrSyntax},
		{"1.-1", api.ErrSyntax},
		{"1..0", api.ErrSyntax},
		{"1.0.0", api.ErrSyntax},
		{"1.00.00", api.ErrSyntax},
		{"1,00", api.ErrSyntax},
		{"1_0.00", api.ErrSyntax},
		{"0x1.00", api.ErrSyntax},
		{"a.00", api.ErrSyntax},
		{"1.a0", api.ErrSyntax},
		{"1.0:", api.ErrSyntax},
		{"/.00", api.ErrSyntax},
		{"\x00.00", api.ErrSyntax},
		{"1.\xff0", api.ErrSyntax},
		{"\xff.00", api.ErrSyntax},
		{"\u0661.00", api.ErrSyntax},
		{"1.\u0661", api.ErrSyntax},
		{"\uff11.00", api.ErrSyntax},
		{"92233720368547758.08", api.ErrOver},
		{"-92233720368547758.09", api.ErrOver},
		{"92233720368547759.00", api.ErrOver},
		{"100000000000000000.00", api.ErrOver},
		{"184467440737095516.15", api.ErrOver},
		{"184467440737095516.16", api.ErrOver},
		{"-184467440737095516.16", api.ErrOver},
		{"184467440737095516.17", api.ErrOver},
		{"340282366920938463463374607431768211456.00", api.ErrOver},
		{long + ".00", api.ErrOver},
		{"-" + long + ".00", api.ErrOver},
		{long + ".0", api.ErrSyntax},
		{long + "x.00", api.ErrSyntax},
		{"0" + long + ".00", api.ErrSyntax},
		{strings.Repeat("0", 1000) + "1.00", api.ErrSyntax},
	}
	for _, c := range cases {
		if n, why := money.Parse(c.s); n != 0 || why != c.why {
			t.Errorf("Parse(%.50q) = %d, error %d; want 0, error %d", c.s, n, why, c.why)
		}
	}
}

// Promise 1.8: Parse of Text is the number.
func TestParseOfText(t *testing.T) {
	for _, n := range append(edges(), some(5, 5000)...) {
		s := money.Text(n)
		if m, why := money.Parse(s); m != n || why != api.OK {
			t.Fatalf("Parse(%q) = %d, error %d; want %d", s, m, why, n)
		}
	}
}

// Promise 1.8: Text of Parse is the text, of all short texts of these letters; each text that is one is read.
func TestTextOfParse(t *testing.T) {
	read := 0
	var walk func(s string, left int)
	walk = func(s string, left int) {
		n, why := money.Parse(s)
		if why == api.OK {
			read++
			if money.Text(n) != s {
				t.Errorf("Text(Parse(%q)) = %q", s, money.Text(n))
			}
		} else if n != 0 || why != api.ErrSyntax {
			t.Errorf("Parse(%q) = %d, error %d", s, n, why)
		}
		if left > 0 {
			for _, r := range "-.019" {
				walk(s+string(r), left-1)
			}
		}
	}
	walk("", 6)
	// There are 9 pairs of cents, behind 3 whole ones of one digit, 6 of two and 18 of three; a - takes the room of a digit, and -0.00 is none.
	want := (3+2*3+2*9)*9 + (3+2*3)*9 - 1
	if read != want {
		t.Errorf("%d texts were read; want %d", read, want)
	}
}

// Promise 1.4: beyond an int64 or not, about both ends.
func TestParseAtTheEnds(t *testing.T) {
	for _, end := range []int64{math.MinInt64, math.MaxInt64} {
		for d := range int64(2001) {
			n := new(big.Int).Add(big.NewInt(end), big.NewInt(d-1000))
			digits := new(big.Int).Abs(n).String()
			s := digits[:len(digits)-2] + "." + digits[len(digits)-2:]
			if n.Sign() < 0 {
				s = "-" + s
			}
			want, wantWhy := checked(n)
			if m, why := money.Parse(s); m != want || why != wantWhy {
				t.Fatalf("Parse(%q) = %d, error %d; want %d, error %d", s, m, why, want, wantWhy)
			}
		}
	}
}
