package saga_test

import (
	"testing"

	"lading/api"
	"lading/saga"
)

// spoil changes all that the lists of a state have, and what is behind their ends.
func spoil(s api.State) {
	for _, o := range s.Orders {
		spoilList(o.Lines)
	}
	spoilList(s.Cells)
	spoilList(s.Books.Pays)
	spoilList(s.Books.Postings)
	spoilList(s.Ships)
	spoilList(s.Orders)
	spoilList(s.Sagas)
	spoilList(s.Kept)
}

func spoilList[T any](l []T) {
	clear(l[:cap(l)])
}

// grow puts something behind each list of a state, where there is room.
func grow(s api.State) {
	for _, o := range s.Orders {
		_ = append(o.Lines, api.Line{Item: 77})
	}
	_ = append(s.Cells, api.Cell{Item: 77})
	_ = append(s.Books.Pays, api.Pay{Order: 77})
	_ = append(s.Books.Postings, api.Posting{Order: 77})
	_ = append(s.Ships, api.Shipment{Order: 77})
	_ = append(s.Orders, api.Order{Id: 77})
	_ = append(s.Sagas, api.Saga{Order: 77})
	_ = append(s.Kept, api.Kept{Mark: "77"})
}

// isNew tells that what a call answers of a state is new memory: it stays as it is, whatever becomes of what was handed in and of another answer, and no list of it goes on into another.
func isNew(t *testing.T, name string, s api.State, call func(api.State) (api.State, api.Errno)) {
	t.Helper()
	in := clone(s)
	first, why := call(in)
	must(t, why)
	want := clone(first)
	second, why := call(in)
	must(t, why)
	grow(first)
	if !same(first, want) {
		t.Errorf("%s: lists of the answer share memory", name)
	}
	spoil(in)
	if !same(first, want) || !same(second, want) {
		t.Errorf("%s keeps what was handed in", name)
	}
	spoil(first)
	if !same(second, want) {
		t.Errorf("%s answers what it has answered", name)
	}
}

// Promise 17.5: of requests that are done, refused and answered once more.
func TestAskIsNewMemory(t *testing.T) {
	for _, kind := range append(kinds(), api.AskNone) {
		for _, id := range []int{0, 1, 2, 4, 10} {
			for _, mark := range []string{"", "again", "new"} {
				for _, lines := range [][]api.Line{nil, {line(1, 1, 1, 0)}, {line(1, 1, 1, 3), line(2, 1, 1, 5)}} {
					isNew(t, "Ask", all(), func(s api.State) (api.State, api.Errno) {
						k, _, why := saga.Ask(s, api.Ask{Mark: mark, Kind: kind, Order: id, Lines: lines})
						return k, why
					})
				}
			}
		}
	}
}

// Promise 17.5: an order's lines are not those that were handed in with its checkout.
func TestCheckoutIsNewMemory(t *testing.T) {
	for _, mark := range []string{"", "new"} {
		lines := make([]api.Line, 2, 9)
		lines[0], lines[1] = line(1, 1, 1, 3), line(2, 1, 1, 5)
		a := api.Ask{Mark: mark, Kind: api.AskCheckout, Order: 10, Lines: lines}
		one, _, why := saga.Ask(all(), a)
		must(t, why)
		two, _, why := saga.Ask(all(), a)
		must(t, why)
		want := clone(one)
		spoilList(one.Orders[9].Lines)
		if lines[0] != line(1, 1, 1, 3) || !same(two, want) {
			t.Error("Ask answers what was handed in")
		}
		spoilList(lines)
		if !same(two, want) {
			t.Error("Ask keeps what was handed in")
		}
	}
}

// Promise 17.5: of every step, accepted and rejected, done and refused.
func TestPumpIsNewMemory(t *testing.T) {
	for _, v := range []api.Verdict{accept, reject} {
		call := func(pick int) func(api.State) (api.State, api.Errno) {
			return func(s api.State) (api.State, api.Errno) {
				k, _, why := saga.Pump(s, pick, v)
				return k, why
			}
		}
		for pick := range all().Sagas {
			isNew(t, "Pump", all(), call(pick))
		}
		for _, d := range doings() {
			isNew(t, "Pump of "+d.name, d.has.in(d.saga), call(0))
		}
	}
}

// Promise 17.5: a state of New has nothing of another one.
func TestNewIsNewMemory(t *testing.T) {
	one, why := saga.New(9)
	must(t, why)
	grow(one)
	spoil(one)
	if two, why := saga.New(9); !same(two, api.State{Limit: 9}) || why != api.OK {
		t.Error("New:", short(two), why)
	}
}
