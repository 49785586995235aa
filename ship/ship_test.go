package ship_test

import (
	"fmt"
	"math"
	"slices"
	"testing"

	"lading/api"
	"lading/ship"
)

func must(t *testing.T, why api.Errno) {
	t.Helper()
	if why != api.OK {
		t.Fatal("error", why)
	}
}

type way struct {
	of api.ShipState
	by api.ShipMove
}

// ways are what moves make of states, as the chapter's words list it.
func ways() map[way]api.ShipState {
	return map[way]api.ShipState{
		{api.ShipNone, api.MoveBook}:        api.ShipBooked,
		{api.ShipBooked, api.MoveSend}:      api.ShipSent,
		{api.ShipSent, api.MoveArrive}:      api.ShipThere,
		{api.ShipBooked, api.MoveCancel}:    api.ShipCancelled,
		{api.ShipSent, api.MoveLabel}:       api.ShipLabelled,
		{api.ShipThere, api.MoveLabel}:      api.ShipLabelled,
		{api.ShipLabelled, api.MoveReceive}: api.ShipBack,
	}
}

// states and moves are those that the document names.
func states() []api.ShipState {
	return []api.ShipState{api.ShipNone, api.ShipBooked, api.ShipSent, api.ShipThere, api.ShipCancelled, api.ShipLabelled, api.ShipBack}
}

func moves() []api.ShipMove {
	return []api.ShipMove{api.MoveBook, api.MoveSend, api.MoveArrive, api.MoveCancel, api.MoveLabel, api.MoveReceive}
}

// asked are the moves at which the carrier is asked.
func asked() []api.ShipMove { return []api.ShipMove{api.MoveBook, api.MoveSend, api.MoveLabel} }

// every is each number that a kind can be.
func every[K ~uint8]() []K {
	var l []K
	for n := range 1 << 8 {
		l = append(l, K(n))
	}
	return l
}

// six are shipments of six orders, the first one and the last one among them, one in each state.
func six() []api.Shipment {
	return []api.Shipment{
		{Order: 1, State: api.ShipSent},
		{Order: 2, State: api.ShipBooked},
		{Order: 5, State: api.ShipBack},
		{Order: 6, State: api.ShipCancelled},
		{Order: 900, State: api.ShipLabelled},
		{Order: api.MaxOrders, State: api.ShipThere},
	}
}

// many are shipments of the first n orders, in all states by turns.
func many(n int) []api.Shipment {
	var l []api.Shipment
	for i := range n {
		l = append(l, api.Shipment{Order: i + 1, State: states()[i%6+1]})
	}
	return l
}

// notOrders are numbers that no order has.
func notOrders() []int { return []int{0, -1, math.MinInt, api.MaxOrders + 1, math.MaxInt} }

// Promises 15.1 and 15.2, by the chapter's example.
func TestExample(t *testing.T) {
	l, why := ship.Move(nil, 1, api.MoveBook, api.VerdictAccept)
	must(t, why)
	if k, why := ship.Move(l, 1, api.MoveSend, api.VerdictReject); len(k) != 0 || why != api.ErrConflict {
		t.Error("a carrier that rejects:", k, why)
	}
	l, why = ship.Move(l, 1, api.MoveSend, api.VerdictAccept)
	must(t, why)
	if s, why := ship.Of(l, 1); s != api.ShipSent || why != api.OK {
		t.Error("Of:", s, why)
	}
	if k, why := ship.Move(l, 1, api.MoveCancel, api.VerdictAccept); len(k) != 0 || why != api.ErrState {
		t.Error("a cancel of what was sent:", k, why)
	}
}

// Promise 15.1: what each move makes of each state; ErrType of what is no state or no move, the other one being one or not; else ErrState.
func TestNext(t *testing.T) {
	made := 0
	for _, s := range every[api.ShipState]() {
		for _, m := range every[api.ShipMove]() {
			want, why := ways()[way{s, m}], api.OK
			if !slices.Contains(states(), s) || !slices.Contains(moves(), m) {
				why = api.ErrType
			} else if want == api.ShipNone {
				why = api.ErrState
			} else {
				made++
			}
			if next, got := ship.Next(s, m); next != want || got != why {
				t.Errorf("Next of %d by %d: %d, error %d, and not %d, error %d", s, m, next, got, want, why)
			}
		}
	}
	if made != 7 {
		t.Error("moves that make something:", made)
	}
}

// Promise 15.1: the carrier is asked at three moves, and at nothing else.
func TestAsks(t *testing.T) {
	for _, m := range every[api.ShipMove]() {
		if ship.Asks(m) != slices.Contains(asked(), m) {
			t.Error("Asks of", m)
		}
	}
}

// Promise 15.1: two states are ends, and nothing else is: just those of which Next makes nothing.
func TestEnds(t *testing.T) {
	for _, s := range every[api.ShipState]() {
		if ship.Ends(s) != (s == api.ShipCancelled || s == api.ShipBack) {
			t.Error("Ends of", s)
		}
	}
	for _, s := range states() {
		ends := true
		for _, m := range moves() {
			_, why := ship.Next(s, m)
			ends = ends && why == api.ErrState
		}
		if ship.Ends(s) != ends {
			t.Error("Ends of", s, "is not what Next says")
		}
	}
}

// Promise 15.2: shipments are right at each of the edges that the chapter names.
func TestCheckOfWhatIsRight(t *testing.T) {
	right := map[string][]api.Shipment{
		"nil":                    nil,
		"none":                   {},
		"six":                    six(),
		"as many as may be":      many(api.MaxOrders),
		"one less":               many(api.MaxOrders - 1),
		"the first and the last": {{Order: 1, State: api.ShipBooked}, {Order: api.MaxOrders, State: api.ShipBack}},
		"states that fall":       {{Order: 3, State: api.ShipBack}, {Order: 4, State: api.ShipBooked}},
	}
	for _, s := range states()[1:] {
		right[fmt.Sprint("one in state ", s)] = []api.Shipment{{Order: 7, State: s}}
	}
	for name, l := range right {
		before := slices.Clone(l)
		if why := ship.Check(l); why != api.OK || !slices.Equal(l, before) {
			t.Errorf("Check of %s: error %d", name, why)
		}
	}
}

// notRight are shipments that are not right, each in one of the ways that the chapter names.
func notRight() map[string][]api.Shipment {
	l := map[string][]api.Shipment{
		"one too many":             many(api.MaxOrders + 1),
		"far too many":             many(4 * api.MaxOrders),
		"too many, the last twice": append(many(api.MaxOrders), api.Shipment{Order: api.MaxOrders, State: api.ShipBack}),
		"orders that fall":         {{Order: 2, State: api.ShipSent}, {Order: 1, State: api.ShipSent}},
		"one twice":                {{Order: 1, State: api.ShipSent}, {Order: 1, State: api.ShipSent}},
		"one twice, moved on":      {{Order: 1, State: api.ShipSent}, {Order: 1, State: api.ShipThere}},
		"one twice, far apart":     {{Order: 1, State: api.ShipSent}, {Order: 2, State: api.ShipSent}, {Order: 1, State: api.ShipSent}},
		"the last of many twice":   append(many(api.MaxOrders-1), api.Shipment{Order: api.MaxOrders - 1, State: api.ShipSent}),
		"the last of many falling": append(many(api.MaxOrders-1), api.Shipment{Order: 1, State: api.ShipSent}),
		"a shipment that is none":  {{}},
		"no order":                 {{State: api.ShipBooked}},
		"no state":                 {{Order: 1}},
	}
	for at := range six() {
		for _, order := range notOrders() {
			k := six()
			k[at].Order = order
			l[fmt.Sprintf("the order at %d being %d", at, order)] = k
		}
		for _, s := range every[api.ShipState]() {
			if s >= api.ShipBooked && s <= api.ShipBack {
				continue
			}
			k := six()
			k[at].State = s
			l[fmt.Sprintf("the state at %d being %d", at, s)] = k
		}
		k := six()
		l[fmt.Sprintf("the one at %d twice", at)] = slices.Insert(k, at, k[at])
	}
	return l
}

// Promise 15.2: shipments that are not right are ErrRange, of every call, ahead of all other errors and with nothing beside it. Rule P1: none panics.
func TestNotRight(t *testing.T) {
	for name, l := range notRight() {
		before := slices.Clone(l)
		if why := ship.Check(l); why != api.ErrRange {
			t.Errorf("Check of %s: error %d", name, why)
		}
		for _, order := range append(notOrders(), 1, 2, 3, 6, 900, api.MaxOrders) {
			if s, why := ship.Of(l, order); s != api.ShipNone || why != api.ErrRange {
				t.Errorf("Of %s, order %d: %d, error %d", name, order, s, why)
			}
			for m := api.MoveNone; m <= api.MoveCount; m++ {
				for v := api.VerdictAccept; v <= api.VerdictCount; v++ {
					if k, why := ship.Move(l, order, m, v); len(k) != 0 || why != api.ErrRange {
						t.Errorf("Move of %s, order %d by %d: %d shipments, error %d", name, order, m, len(k), why)
					}
				}
			}
		}
		if !slices.Equal(l, before) {
			t.Errorf("%s has been changed", name)
		}
	}
}

// Promise 15.2: the state of an order's shipment; ShipNone, if it has none; an error and nothing, if there is no such order.
func TestOf(t *testing.T) {
	for name, l := range map[string][]api.Shipment{"nil": nil, "none": {}, "six": six(), "many": many(api.MaxOrders), "half": many(api.MaxOrders / 2)} {
		want := map[int]api.ShipState{}
		for _, x := range l {
			want[x.Order] = x.State
		}
		before := slices.Clone(l)
		for order := 1; order <= api.MaxOrders; order++ {
			if s, why := ship.Of(l, order); s != want[order] || why != api.OK {
				t.Errorf("Of %s, order %d: %d, error %d, and not %d", name, order, s, why, want[order])
			}
		}
		for _, order := range notOrders() {
			if s, why := ship.Of(l, order); s != api.ShipNone || why != api.ErrRange {
				t.Errorf("Of %s, order %d: %d, error %d", name, order, s, why)
			}
		}
		if !slices.Equal(l, before) {
			t.Errorf("Of %s has changed what it was handed", name)
		}
	}
}
