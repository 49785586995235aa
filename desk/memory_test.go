package desk_test

import (
	"slices"
	"testing"

	"lading/api"
)

// clone is a state in other memory.
func clone(s api.State) api.State {
	s.Cells, s.Ships, s.Sagas, s.Kept = slices.Clone(s.Cells), slices.Clone(s.Ships), slices.Clone(s.Sagas), slices.Clone(s.Kept)
	s.Books = api.Books{Pays: slices.Clone(s.Books.Pays), Postings: slices.Clone(s.Books.Postings)}
	s.Orders = slices.Clone(s.Orders)
	for i := range s.Orders {
		s.Orders[i].Lines = slices.Clone(s.Orders[i].Lines)
	}
	return s
}

// spoil changes all that the lists of a state have, and what is behind their ends.
func spoil(s api.State) {
	for _, o := range s.Orders {
		clear(o.Lines[:cap(o.Lines)])
	}
	clear(s.Cells[:cap(s.Cells)])
	clear(s.Books.Pays[:cap(s.Books.Pays)])
	clear(s.Books.Postings[:cap(s.Books.Postings)])
	clear(s.Ships[:cap(s.Ships)])
	clear(s.Orders[:cap(s.Orders)])
	clear(s.Sagas[:cap(s.Sagas)])
	clear(s.Kept[:cap(s.Kept)])
}

// grow puts something behind each list of a state, where there is room.
func grow(s api.State) {
	for _, o := range s.Orders {
		_ = append(o.Lines, api.Line{Item: 77})
	}
	_ = append(s.Cells, api.Cell{Item: 77})
	_ = append(s.Books.Pays, api.Pay{Order: 77})
	_ = append(s.Books.Postings, api.Posting{Order: 77})
	_ = append(s.Ships, api.Shipment{Order: 77})
	_ = append(s.Orders, api.Order{Id: 77})
	_ = append(s.Sagas, api.Saga{Order: 77})
	_ = append(s.Kept, api.Kept{Mark: "77"})
}

// Promise 19.4: a state that was answered may be changed; neither the desk nor another answer changes with it.
func TestStateIsNewMemory(t *testing.T) {
	d, k := formatted(t, 400, 4, 40)
	want := k.State()
	for _, a := range busy() {
		s, to := next(want, capOf(400, 4), a)
		does(t, k, a, to)
		want = s
		one, two := k.State(), k.State()
		grow(one)
		if !same(one, want) {
			t.Fatal("lists of a state share memory")
		}
		spoil(one)
		if !same(two, want) {
			t.Fatal("State answers what it has answered")
		}
		has(t, k, capOf(400, 4), want)
	}
	lasts(t, d, k, capOf(400, 4), want)
}

// Promise 19.4: lines that were handed in are neither changed nor kept.
func TestLinesAreNotKept(t *testing.T) {
	d, k := formatted(t, 400, 4, 40)
	want := k.State()
	for _, a := range busy() {
		s, to := next(want, capOf(400, 4), a)
		want = clone(s)
		lines := append(make([]api.Line, 0, 20), a.Ask.Lines...)
		handed := a
		handed.Ask.Lines = lines
		if got := asked(k, handed, true); got != to || !slices.Equal(lines, a.Ask.Lines) {
			t.Fatalf("%+v: %+v, and not %+v; the lines are %v", a, got, to, lines)
		}
		clear(lines[:cap(lines)])
		has(t, k, capOf(400, 4), want)
	}
	lasts(t, d, k, capOf(400, 4), want)
}
