package front_test

import (
	"fmt"
	"math"
	"strings"
	"testing"

	"lading/api"
	"lading/front"
)

// at is the word of a place, from a first number on; ?, if there is none.
func at(words string, first, n int) string {
	l := strings.Fields(words)
	if n < first || n >= first+len(l) {
		return "?"
	}
	return l[n-first]
}

const (
	errorNames  = "ok nil range many long over code full down state conflict unknown twice stock syntax type"
	statusNames = "none open rejected fulfilled cancelling cancelled returning returned"
	kindNames   = "checkout cancel return"
	stepNames   = "reserve authorise book capture send release void unbook refund label receive"
)

// Promise 20.3: names of all errors, and of numbers that are none.
func TestName(t *testing.T) {
	for _, e := range []api.Errno{math.MinInt, math.MinInt64 + 1, math.MaxInt, 1 << 32, -1 << 32} {
		if s := front.Name(e); s != "?" {
			t.Error("Name of", e, ":", s)
		}
	}
	for n := -300; n < 300; n++ {
		if s := front.Name(api.Errno(n)); s != at(errorNames, 0, n) {
			t.Error("Name of", n, ":", s)
		}
	}
	for e, name := range map[api.Errno]string{api.OK: "ok", api.ErrNil: "nil", api.ErrRange: "range", api.ErrMany: "many", api.ErrLong: "long", api.ErrOver: "over", api.ErrCode: "code", api.ErrFull: "full", api.ErrDown: "down", api.ErrState: "state", api.ErrConflict: "conflict", api.ErrUnknown: "unknown", api.ErrTwice: "twice", api.ErrStock: "stock", api.ErrSyntax: "syntax", api.ErrType: "type"} {
		if s := front.Name(e); s != name {
			t.Error("Name of", e, ":", s)
		}
	}
}

// Promise 20.3: replies of every status, error and amount, and of numbers that are none.
func TestReply(t *testing.T) {
	for n := range 256 {
		for _, e := range []int{-1, 0, 7, 15, 16} {
			for amount, text := range map[int64]string{0: "0.00", 5: "0.05", 600: "6.00", -5: "-0.05", math.MaxInt64: "92233720368547758.07", math.MinInt64: "-92233720368547758.08"} {
				want := join("reply", at(errorNames, 0, e), at(statusNames, 0, n), text)
				if s := front.Reply(api.Reply{Why: api.Errno(e), Status: api.Status(n), Amount: amount}); s != want {
					t.Errorf("Reply: %q, and not %q", s, want)
				}
			}
		}
	}
}

// Promise 20.3: what was told of every kind and step, and of numbers that are none.
func TestTold(t *testing.T) {
	for kind := range 256 {
		for step := range 256 {
			for _, order := range []int{0, 1, -7, api.MaxOrders, math.MinInt, math.MaxInt} {
				end := []string{"on", "over"}[(kind+step)%2]
				want := fmt.Sprintf("told %d %s %s %s %s", order, at(kindNames, 1, kind), at(stepNames, 1, step), at(errorNames, 0, step-kind), end)
				if s := front.Told(api.Told{Order: order, Kind: api.SagaKind(kind), Step: api.StepKind(step), Why: api.Errno(step - kind), Over: end == "over"}); s != want {
					t.Fatalf("Told: %q, and not %q", s, want)
				}
			}
		}
	}
	if s := front.Told(api.Told{Order: 1, Kind: api.SagaReturn, Step: api.StepReceive, Why: api.ErrState, Over: true}); s != "told 1 return receive state over" {
		t.Errorf("Told: %q", s)
	}
}
