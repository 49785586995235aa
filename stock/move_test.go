package stock_test

import (
	"math"
	"slices"
	"testing"

	"lading/api"
	"lading/stock"
)

// with is four with the cell of one item at one warehouse put in its place, or between the others.
func with(c api.Cell) []api.Cell {
	l := slices.DeleteFunc(four(), func(x api.Cell) bool { return x.Item == c.Item && x.Ware == c.Ware })
	l = append(l, c)
	slices.SortFunc(l, func(a, b api.Cell) int { return (a.Item-b.Item)*2*api.MaxItems + a.Ware - b.Ware })
	return l
}

// Promise 13.1: an item, a warehouse, a number of units out of their range are ErrRange, of each move and ahead of its own errors.
func TestMovesOutOfRange(t *testing.T) {
	full := many(api.MaxList)
	for name := range moves() {
		for _, l := range [][]api.Cell{nil, four(), full, {cell(1, 1, most, 0, 0)}} {
			for _, wrong := range []int{0, -1, math.MinInt, api.MaxItems + 1, math.MaxInt} {
				does(t, name, l, wrong, 1, 1, nil, api.ErrRange)
				does(t, name, l, 1, wrong, 1, nil, api.ErrRange)
				does(t, name, l, wrong, wrong, 1, nil, api.ErrRange)
				does(t, name, l, wrong, wrong, 0, nil, api.ErrRange)
			}
			for _, wrong := range []int64{0, -1, -api.MaxQty, math.MinInt64, api.MaxQty + 1, most, most + 1, math.MaxInt64} {
				does(t, name, l, 1, 1, wrong, nil, api.ErrRange)
				does(t, name, l, 1, 2, wrong, nil, api.ErrRange)
				does(t, name, l, api.MaxItems, api.MaxItems, wrong, nil, api.ErrRange)
			}
		}
	}
}

// Promises 13.2 and 13.7: each move of one, of some and of all that can be moved, and of one more than that; no other cell is changed.
func TestMoves(t *testing.T) {
	for _, x := range []struct {
		name       string
		item, ware int
		n          int64
		want       api.Cell
	}{
		{"Restock", 1, 2, 1, cell(1, 2, 6, 3, 2)},
		{"Restock", 1, 2, 9, cell(1, 2, 14, 3, 2)},
		{"Restock", 1, 2, api.MaxQty, cell(1, 2, 5+api.MaxQty, 3, 2)},
		{"Restock", 3, 5, 2, cell(3, 5, 2, 4, 9)},
		{"Restock", api.MaxItems, api.MaxItems, 1, cell(api.MaxItems, api.MaxItems, 8, 7, 7)},
		{"Reserve", 1, 2, 1, cell(1, 2, 4, 4, 2)},
		{"Reserve", 1, 2, 4, cell(1, 2, 1, 7, 2)},
		{"Reserve", 1, 2, 5, cell(1, 2, 0, 8, 2)},
		{"Reserve", 3, 1, 1, cell(3, 1, 0, 1, 0)},
		{"Reserve", api.MaxItems, api.MaxItems, 7, cell(api.MaxItems, api.MaxItems, 0, 14, 7)},
		{"Release", 1, 2, 1, cell(1, 2, 6, 2, 2)},
		{"Release", 1, 2, 2, cell(1, 2, 7, 1, 2)},
		{"Release", 1, 2, 3, cell(1, 2, 8, 0, 2)},
		{"Release", 3, 5, 4, cell(3, 5, 4, 0, 9)},
		{"Send", 1, 2, 1, cell(1, 2, 5, 2, 3)},
		{"Send", 1, 2, 2, cell(1, 2, 5, 1, 4)},
		{"Send", 1, 2, 3, cell(1, 2, 5, 0, 5)},
		{"Send", 3, 5, 4, cell(3, 5, 0, 0, 13)},
		{"TakeBack", 1, 2, 1, cell(1, 2, 6, 3, 1)},
		{"TakeBack", 1, 2, 2, cell(1, 2, 7, 3, 0)},
		{"TakeBack", 3, 5, 5, cell(3, 5, 5, 4, 4)},
		{"TakeBack", 3, 5, 9, cell(3, 5, 9, 4, 0)},
	} {
		does(t, x.name, four(), x.item, x.ware, x.n, with(x.want), api.OK)
	}
	for _, x := range []struct {
		name       string
		item, ware int
		n          int64
	}{
		{"Reserve", 1, 2, 6}, {"Reserve", 1, 2, api.MaxQty}, {"Reserve", 3, 5, 1}, {"Reserve", 3, 1, 2},
		{"Release", 1, 2, 4}, {"Release", 1, 2, api.MaxQty}, {"Release", 3, 1, 1}, {"Release", 3, 5, 5},
		{"Send", 1, 2, 4}, {"Send", 1, 2, api.MaxQty}, {"Send", 3, 1, 1}, {"Send", 3, 5, 5},
		{"TakeBack", 1, 2, 3}, {"TakeBack", 1, 2, api.MaxQty}, {"TakeBack", 3, 1, 1}, {"TakeBack", 3, 5, 10},
	} {
		does(t, x.name, four(), x.item, x.ware, x.n, nil, api.ErrStock)
	}
}

// Promise 13.2: of a cell that is not there nothing can be moved; a restock of it puts it in its place.
func TestMovesOfNone(t *testing.T) {
	places := [][2]int{{1, 1}, {1, 3}, {1, api.MaxItems}, {2, 1}, {2, 2}, {3, 2}, {3, 4}, {3, 6}, {4, 1}, {api.MaxItems, 1}, {api.MaxItems, api.MaxItems - 1}}
	for _, at := range places {
		for name := range moves() {
			for _, n := range []int64{1, 2, api.MaxQty} {
				if name == "Restock" {
					does(t, name, four(), at[0], at[1], n, with(cell(at[0], at[1], n, 0, 0)), api.OK)
					does(t, name, nil, at[0], at[1], n, []api.Cell{cell(at[0], at[1], n, 0, 0)}, api.OK)
					does(t, name, []api.Cell{}, at[0], at[1], n, []api.Cell{cell(at[0], at[1], n, 0, 0)}, api.OK)
					continue
				}
				does(t, name, four(), at[0], at[1], n, nil, api.ErrStock)
				does(t, name, nil, at[0], at[1], n, nil, api.ErrStock)
				does(t, name, []api.Cell{}, at[0], at[1], n, nil, api.ErrStock)
				does(t, name, []api.Cell{cell(at[0], at[1], 0, 0, 0)}, at[0], at[1], n, nil, api.ErrStock)
			}
		}
	}
	does(t, "Restock", []api.Cell{cell(1, 1, 0, 0, 0)}, 1, 1, 4, []api.Cell{cell(1, 1, 4, 0, 0)}, api.OK)
}

// Promise 13.2: a restock up to an All of 2^50, and one more, wherever the units are; moves at that bound.
func TestRestockIsOver(t *testing.T) {
	for _, part := range []func(n int64) api.Cell{
		func(n int64) api.Cell { return cell(7, 7, n, 0, 0) },
		func(n int64) api.Cell { return cell(7, 7, 0, n, 0) },
		func(n int64) api.Cell { return cell(7, 7, 0, 0, n) },
		func(n int64) api.Cell { return cell(7, 7, 1, n-3, 2) },
	} {
		for _, n := range []int64{1, 2, 1000, api.MaxQty} {
			c := part(most - n)
			full := c
			full.Free += n
			full.All += n
			does(t, "Restock", with(c), 7, 7, n, with(full), api.OK)
			does(t, "Restock", with(part(most-n+1)), 7, 7, n, nil, api.ErrOver)
			does(t, "Restock", with(part(most)), 7, 7, n, nil, api.ErrOver)
			does(t, "Restock", with(full), 7, 8, n, append(with(full)[:4], cell(7, 8, n, 0, 0), four()[3]), api.OK)
		}
	}
	does(t, "Reserve", []api.Cell{cell(1, 1, most, 0, 0)}, 1, 1, api.MaxQty, []api.Cell{cell(1, 1, most-api.MaxQty, api.MaxQty, 0)}, api.OK)
	does(t, "Release", []api.Cell{cell(1, 1, 0, most, 0)}, 1, 1, api.MaxQty, []api.Cell{cell(1, 1, api.MaxQty, most-api.MaxQty, 0)}, api.OK)
	does(t, "Send", []api.Cell{cell(1, 1, 0, most, 0)}, 1, 1, api.MaxQty, []api.Cell{cell(1, 1, 0, most-api.MaxQty, api.MaxQty)}, api.OK)
	does(t, "TakeBack", []api.Cell{cell(1, 1, 0, 0, most)}, 1, 1, api.MaxQty, []api.Cell{cell(1, 1, api.MaxQty, 0, most-api.MaxQty)}, api.OK)
}

// Promise 13.2: up to MaxList cells there are more of them; then a restock of a new one is ErrMany, while those that are there move on.
func TestRestockOfTooMany(t *testing.T) {
	nearly, full := many(api.MaxList-1), many(api.MaxList)
	does(t, "Restock", nearly, 4, api.MaxItems, 1, append(many(api.MaxList-1), cell(4, api.MaxItems, 1, 0, 0)), api.OK)
	does(t, "Restock", nearly, 9, 1, 1, append(many(api.MaxList-1), cell(9, 1, 1, 0, 0)), api.OK)
	does(t, "Restock", full, 5, 1, 1, nil, api.ErrMany)
	does(t, "Restock", full, api.MaxItems, api.MaxItems, api.MaxQty, nil, api.ErrMany)
	gap := append(many(api.MaxList)[1:], cell(5, 1, most, 0, 0))
	does(t, "Restock", gap, 1, 1, 1, nil, api.ErrMany)
	does(t, "Restock", gap, 5, 1, 1, nil, api.ErrOver)
	want := many(api.MaxList)
	want[0] = cell(1, 1, 6, 2, 3)
	does(t, "Restock", full, 1, 1, 5, want, api.OK)
	want = many(api.MaxList)
	want[api.MaxList-1] = cell(4, api.MaxItems, 1, 0, 5)
	does(t, "Send", full, 4, api.MaxItems, 2, want, api.OK)
	for _, name := range []string{"Reserve", "Release", "Send", "TakeBack"} {
		does(t, name, full, 5, 1, 1, nil, api.ErrStock)
		does(t, name, full, 1, 1, 4, nil, api.ErrStock)
	}
}

// spoil makes a list what no call would answer.
func spoil(l []api.Cell) {
	for i := range l {
		l[i] = api.Cell{Item: -1, Ware: -1, Free: -1, Held: -1, Out: -1, All: -1}
	}
}

// Promise 13.4: what a move answers shares no memory with what it was handed, nor with an earlier answer.
func TestNewMemory(t *testing.T) {
	for name, do := range moves() {
		want, why := do(four(), 1, 2, 1)
		must(t, why)
		l := make([]api.Cell, 4, 64) // with room behind it, into which nothing is to be put
		copy(l, four())
		k, why := do(l, 1, 2, 1)
		must(t, why)
		k2, why := do(l, 1, 2, 1)
		must(t, why)
		spoil(l)
		if !slices.Equal(k, want) || !slices.Equal(k2, want) {
			t.Errorf("%s has kept what it was handed", name)
		}
		spoil(k)
		if !slices.Equal(k2, want) {
			t.Errorf("%s answers what it has answered", name)
		}
		copy(l, four())
		k, why = do(l, 1, 2, 1)
		must(t, why)
		spoil(k[:cap(k)])
		if !slices.Equal(l, four()) || slices.ContainsFunc(l[4:cap(l)], func(c api.Cell) bool { return c != api.Cell{} }) {
			t.Errorf("%s answers what it was handed", name)
		}
	}
	l := make([]api.Cell, 1, 64)
	l[0] = cell(1, 1, 1, 0, 0)
	a, why := stock.Restock(l, 2, 1, 3)
	must(t, why)
	b, why := stock.Restock(l, 3, 1, 4)
	must(t, why)
	if !slices.Equal(a, []api.Cell{cell(1, 1, 1, 0, 0), cell(2, 1, 3, 0, 0)}) || !slices.Equal(b, []api.Cell{cell(1, 1, 1, 0, 0), cell(3, 1, 4, 0, 0)}) || l[:2][1] != (api.Cell{}) {
		t.Error("a new cell was put into the room of what was handed in:", a, b, l[:2])
	}
}
