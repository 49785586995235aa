package ship_test

import (
	"fmt"
	"math/rand/v2"
	"slices"
	"testing"

	"lading/api"
	"lading/ship"
)

// does tells what Move answers, and that it changes nothing that it is handed.
func does(t *testing.T, l []api.Shipment, order int, m api.ShipMove, v api.Verdict, want []api.Shipment, why api.Errno) {
	t.Helper()
	before := slices.Clone(l)
	k, got := ship.Move(l, order, m, v)
	if !slices.Equal(k, want) || got != why {
		t.Errorf("Move of order %d by %d, verdict %d: %d shipments %.200s, error %d, and not %d shipments %.200s, error %d", order, m, v, len(k), fmt.Sprint(k), got, len(want), fmt.Sprint(want), why)
	}
	if !slices.Equal(l, before) {
		t.Error("Move has changed what it was handed")
	}
}

// in is l in which an order is in a state: its shipment put in its place, between the others, or gone.
func in(l []api.Shipment, order int, s api.ShipState) []api.Shipment {
	k := slices.DeleteFunc(slices.Clone(l), func(x api.Shipment) bool { return x.Order == order })
	if s != api.ShipNone {
		k = append(k, api.Shipment{Order: order, State: s})
	}
	slices.SortFunc(k, func(a, b api.Shipment) int { return a.Order - b.Order })
	return k
}

// expected is what Move of an order that is in state s must come to, by the chapter's words.
func expected(s api.ShipState, m api.ShipMove, v api.Verdict) (api.ShipState, api.Errno) {
	if !slices.Contains(moves(), m) || v != api.VerdictAccept && v != api.VerdictReject {
		return api.ShipNone, api.ErrType
	}
	next, is := ways()[way{s, m}]
	if !is {
		return api.ShipNone, api.ErrState
	}
	if slices.Contains(asked(), m) && v == api.VerdictReject {
		return api.ShipNone, api.ErrConflict
	}
	return next, api.OK
}

// Promises 15.2 and 15.5: every state with every move and verdict, and with what is none, of orders at all places of the list; no other order's shipment is changed.
func TestMove(t *testing.T) {
	for _, l := range [][]api.Shipment{nil, {}, six(), many(api.MaxOrders)} {
		for _, order := range []int{1, 2, 3, 5, 901, api.MaxOrders - 1, api.MaxOrders} {
			for _, s := range states() {
				at := in(l, order, s)
				for m := api.MoveNone; m <= api.MoveCount+1; m++ {
					for v := api.VerdictAccept; v <= api.VerdictCount+1; v++ {
						next, why := expected(s, m, v)
						var want []api.Shipment
						if why == api.OK {
							want = in(l, order, next)
						}
						does(t, at, order, m, v, want, why)
					}
				}
			}
		}
	}
}

// Promise 15.2: what is no move or no verdict is ErrType, up to the last number that it can be, whatever the state is and the other one is.
func TestMoveByNone(t *testing.T) {
	for _, s := range states() {
		l := in(six(), 4, s)
		for _, m := range every[api.ShipMove]() {
			for _, v := range every[api.Verdict]() {
				if m == api.MoveNone || m >= api.MoveCount || v >= api.VerdictCount {
					does(t, l, 4, m, v, nil, api.ErrType)
				}
			}
		}
	}
}

// Promise 15.2: an order out of its range is ErrRange, ahead of all other errors, with shipments and without any.
func TestMoveOfNoOrder(t *testing.T) {
	for _, l := range [][]api.Shipment{nil, {}, six(), many(api.MaxOrders)} {
		for _, order := range notOrders() {
			for m := api.MoveNone; m <= api.MoveCount; m++ {
				for v := api.VerdictAccept; v <= api.VerdictCount; v++ {
					does(t, l, order, m, v, nil, api.ErrRange)
				}
			}
		}
	}
}

// Promise 15.2: of several errors the first one that the chapter names is answered.
func TestWhichErrorIsFirst(t *testing.T) {
	wrong := []api.Shipment{{Order: 1}}
	does(t, wrong, 1, api.MoveNone, api.VerdictCount, nil, api.ErrRange)
	does(t, six(), 0, api.MoveNone, api.VerdictCount, nil, api.ErrRange)
	does(t, six(), 1, api.MoveBook, api.VerdictCount, nil, api.ErrType)
	does(t, six(), 1, api.MoveNone, api.VerdictReject, nil, api.ErrType)
	does(t, six(), 1, api.MoveBook, api.VerdictReject, nil, api.ErrState)
	does(t, six(), 3, api.MoveBook, api.VerdictReject, nil, api.ErrConflict)
}

// Promise 15.2: a carrier that is not asked does not refuse.
func TestRejectWhereNobodyIsAsked(t *testing.T) {
	does(t, six(), 1, api.MoveArrive, api.VerdictReject, in(six(), 1, api.ShipThere), api.OK)
	does(t, six(), 2, api.MoveCancel, api.VerdictReject, in(six(), 2, api.ShipCancelled), api.OK)
	does(t, six(), 900, api.MoveReceive, api.VerdictReject, in(six(), 900, api.ShipBack), api.OK)
}

// Promise 15.2: one order behind the other is booked, from none up to as many as there may be, in whatever order.
func TestBookAll(t *testing.T) {
	r := rand.New(rand.NewPCG(2, 15))
	var l []api.Shipment
	for n, at := range r.Perm(api.MaxOrders) {
		k, why := ship.Move(l, at+1, api.MoveBook, api.VerdictAccept)
		must(t, why)
		must(t, ship.Check(k))
		if len(k) != n+1 {
			t.Fatalf("%d shipments, and not %d", len(k), n+1)
		}
		l = k
	}
	for i, x := range l {
		if x != (api.Shipment{Order: i + 1, State: api.ShipBooked}) {
			t.Fatal("at the place", i, "there is", x)
		}
	}
}

// Promise 15.3: what Move answers shares no memory with what it was handed, nor with an earlier answer.
func TestNewMemory(t *testing.T) {
	for _, order := range []int{1, 3, 1000} {
		m := api.MoveBook
		if order == 1 {
			m = api.MoveArrive
		}
		l := append(make([]api.Shipment, 0, 99), six()...)
		k, why := ship.Move(l, order, m, api.VerdictAccept)
		must(t, why)
		again, why := ship.Move(l, order, m, api.VerdictAccept)
		must(t, why)
		want := slices.Clone(k)
		clear(l[:cap(l)])
		if !slices.Equal(k, want) {
			t.Errorf("Move of order %d has kept what it was handed", order)
		}
		clear(k[:cap(k)])
		if !slices.Equal(again, want) {
			t.Errorf("Move of order %d answers what it has answered", order)
		}
	}
}
