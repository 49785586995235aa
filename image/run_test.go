package image_test

import (
	"fmt"
	"math/rand/v2"
	"slices"
	"testing"

	"lading/api"
	"lading/image"
	"lading/saga"
)

// anyAsk is a random request of few orders.
func anyAsk(r *rand.Rand) api.Ask {
	a := api.Ask{Kind: []api.AskKind{api.AskCheckout, api.AskCheckout, api.AskCheckout, api.AskCancel, api.AskReturn, api.AskRestock, api.AskStatus}[r.IntN(7)], Order: r.IntN(25) + 1}
	for range r.IntN(3) + 1 {
		a.Lines = append(a.Lines, line(r.IntN(2)+1, r.IntN(2)+1, r.Int64N(3)+1, r.Int64N(500)))
	}
	if a.Kind == api.AskRestock {
		for i := range a.Lines {
			a.Lines[i].Unit, a.Lines[i].Qty = 0, a.Lines[i].Qty*4
		}
	}
	if r.IntN(4) == 0 {
		a.Mark = fmt.Sprint("m", r.IntN(50))
	}
	return a
}

// isImage tells promises 18.1, 18.5 and 18.6 of a state that was come to: its entries, there and back, and what must be written behind others.
func isImage(t *testing.T, s api.State, before []api.Pair) []api.Pair {
	t.Helper()
	l, why := image.Entries(s)
	if !slices.Equal(l, entries(s)) || why != api.OK {
		t.Fatalf("Entries: %q, error %d", l, why)
	}
	if k, why := image.State(l); !same(k, s) || why != api.OK {
		t.Fatalf("State: %v, error %d, and not %v", k, why, s)
	}
	w, why := image.Diff(before, l)
	if !slices.Equal(done(before, w), l) || why != api.OK {
		t.Fatalf("Diff: %v, error %d", w, why)
	}
	return l
}

// most is Most of a state that must have it.
func most(t *testing.T, s api.State) int {
	t.Helper()
	n, why := image.Most(s)
	must(t, why)
	return n
}

// Promises 18.5 to 18.7 and rule P9: whatever is asked and pumped, a state is read from its entries; from each request on the entries are never more than the most was, which never grows by a pump, and all sagas come to their end within it.
func TestRun(t *testing.T) {
	reached := 0
	for seed := range uint64(30) {
		r := rand.New(rand.NewPCG(seed, 18))
		rejects := r.IntN(6)
		s, why := saga.New(r.IntN(26))
		must(t, why)
		bound := most(t, s)
		l := isImage(t, s, nil)
		for range 250 {
			if len(s.Sagas) == 0 || r.IntN(4) == 0 {
				if s, _, why = saga.Ask(s, anyAsk(r)); why != api.OK {
					t.Fatal("Ask: error", why)
				}
				bound = most(t, s)
				l = isImage(t, s, l)
				continue
			}
			verdict := api.VerdictAccept
			if r.IntN(12) < rejects {
				verdict = api.VerdictReject
			}
			if s, _, why = saga.Pump(s, int(r.Int64()), verdict); why != api.OK {
				t.Fatal("Pump: error", why)
			}
			l = isImage(t, s, l)
			n := most(t, s)
			if len(l) > n || n > bound {
				t.Fatalf("%d entries, the most is %d, and was %d", len(l), n, bound)
			}
			if len(l) == bound {
				reached++
			}
			bound = n
		}
	}
	if reached < 10 {
		t.Error("the most was reached too seldom:", reached)
	}
}

// Promise 18.7: a checkout that is captured and goes back then has the most entries that there can be, while its saga is there.
func TestMostIsReached(t *testing.T) {
	s, why := saga.New(9)
	must(t, why)
	s, _, why = saga.Ask(s, api.Ask{Kind: api.AskRestock, Lines: []api.Line{line(1, 1, 5, 0)}})
	must(t, why)
	s, _, why = saga.Ask(s, api.Ask{Kind: api.AskCheckout, Order: 1, Lines: []api.Line{line(1, 1, 2, 300)}})
	must(t, why)
	bound := most(t, s)
	for i, x := range []struct {
		verdict api.Verdict
		entries int
	}{{0, 4}, {0, 5}, {0, 6}, {0, 7}, {1, 7}, {0, 8}, {0, 8}, {0, 8}, {0, 7}} {
		if s, _, why = saga.Pump(s, 0, x.verdict); why != api.OK {
			t.Fatal("Pump: error", why)
		}
		l, why := image.Entries(s)
		if len(l) != x.entries || why != api.OK {
			t.Errorf("behind pump %d: %d entries, error %d, and not %d", i, len(l), why, x.entries)
		}
	}
	if bound != 8 {
		t.Error("the most was", bound)
	}
}

// spoil changes all that the lists of a state have, and what is behind their ends.
func spoil(s api.State) {
	for _, o := range s.Orders {
		clear(o.Lines[:cap(o.Lines)])
	}
	clear(s.Cells[:cap(s.Cells)])
	clear(s.Books.Pays[:cap(s.Books.Pays)])
	clear(s.Books.Postings[:cap(s.Books.Postings)])
	clear(s.Ships[:cap(s.Ships)])
	clear(s.Orders[:cap(s.Orders)])
	clear(s.Sagas[:cap(s.Sagas)])
	clear(s.Kept[:cap(s.Kept)])
}

// grow puts something behind each list of a state, where there is room.
func grow(s api.State) {
	for _, o := range s.Orders {
		_ = append(o.Lines, api.Line{Item: 77})
	}
	_ = append(s.Cells, api.Cell{Item: 77})
	_ = append(s.Books.Pays, api.Pay{Order: 77})
	_ = append(s.Books.Postings, api.Posting{Order: 77})
	_ = append(s.Ships, api.Shipment{Order: 77})
	_ = append(s.Orders, api.Order{Id: 77})
	_ = append(s.Sagas, api.Saga{Order: 77})
	_ = append(s.Kept, api.Kept{Mark: "77"})
}

// Promise 18.4: answers share no memory with what was handed in, with one another, or list with list.
func TestNewMemory(t *testing.T) {
	in := all()
	l, why := image.Entries(in)
	must(t, why)
	again, why := image.Entries(in)
	must(t, why)
	spoil(in)
	clear(l[:cap(l)])
	if !slices.Equal(again, entries(all())) {
		t.Error("Entries are not new memory")
	}
	one, why := image.State(again)
	must(t, why)
	two, why := image.State(again)
	must(t, why)
	grow(one)
	if !same(one, all()) {
		t.Error("lists of a state share memory")
	}
	spoil(one)
	if !slices.Equal(again, entries(all())) {
		t.Error("State answers what it was handed")
	}
	clear(again)
	if !same(two, all()) {
		t.Error("states are not new memory")
	}
	a, b := pairs("a", "1", "c", "3"), pairs("b", "2", "c", "4")
	first, why := image.Diff(a, b)
	must(t, why)
	second, why := image.Diff(a, b)
	must(t, why)
	clear(a)
	clear(b)
	clear(first[:cap(first)])
	if !slices.Equal(second, []api.Write{gone("a"), put("b", "2"), put("c", "4")}) {
		t.Error("writes are not new memory")
	}
}
