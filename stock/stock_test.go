package stock_test

import (
	"fmt"
	"math"
	"slices"
	"testing"

	"lading/api"
	"lading/stock"
)

// most is how many units of an item may ever have come to a warehouse.
const most = 1 << 50

func must(t *testing.T, why api.Errno) {
	t.Helper()
	if why != api.OK {
		t.Fatal("error", why)
	}
}

// cell is one that adds up.
func cell(item, ware int, free, held, out int64) api.Cell {
	return api.Cell{Item: item, Ware: ware, Free: free, Held: held, Out: out, All: free + held + out}
}

// four are cells of three items at three warehouses.
func four() []api.Cell {
	return []api.Cell{cell(1, 2, 5, 3, 2), cell(3, 1, 1, 0, 0), cell(3, 5, 0, 4, 9), cell(api.MaxItems, api.MaxItems, 7, 7, 7)}
}

// many are n cells, of 1,024 warehouses each item.
func many(n int) []api.Cell {
	var l []api.Cell
	for i := range n {
		l = append(l, cell(i/api.MaxItems+1, i%api.MaxItems+1, 1, 2, 3))
	}
	return l
}

type moveOf = func([]api.Cell, int, int, int64) ([]api.Cell, api.Errno)

// moves are all that the chapter lists, by their names.
func moves() map[string]moveOf {
	return map[string]moveOf{"Restock": stock.Restock, "Reserve": stock.Reserve, "Release": stock.Release, "Send": stock.Send, "TakeBack": stock.TakeBack}
}

// does tells what a move answers, and that it changes nothing that it is handed.
func does(t *testing.T, name string, l []api.Cell, item, ware int, n int64, want []api.Cell, why api.Errno) {
	t.Helper()
	before := slices.Clone(l)
	k, got := moves()[name](l, item, ware, n)
	if !slices.Equal(k, want) || got != why {
		t.Errorf("%s of %d of item %d at %d: %d cells %.200s, error %d, and not %d cells %.200s, error %d", name, n, item, ware, len(k), fmt.Sprint(k), got, len(want), fmt.Sprint(want), why)
	}
	if !slices.Equal(l, before) {
		t.Errorf("%s has changed what it was handed", name)
	}
}

// Promises 13.1 and 13.2, by the chapter's example.
func TestExample(t *testing.T) {
	l, why := stock.Restock(nil, 1, 1, 5)
	must(t, why)
	does(t, "Reserve", l, 1, 1, 3, []api.Cell{cell(1, 1, 2, 3, 0)}, api.OK)
	does(t, "Send", []api.Cell{cell(1, 1, 2, 3, 0)}, 1, 1, 2, []api.Cell{cell(1, 1, 2, 1, 2)}, api.OK)
	does(t, "TakeBack", []api.Cell{cell(1, 1, 2, 1, 2)}, 1, 1, 3, nil, api.ErrStock)
}

// Promise 13.1: cells are right at each of the edges that the chapter names.
func TestCheckOfWhatIsRight(t *testing.T) {
	for name, l := range map[string][]api.Cell{
		"nil":                          nil,
		"none":                         {},
		"four":                         four(),
		"as many as may be":            many(api.MaxList),
		"one of noughts":               {cell(1, 1, 0, 0, 0)},
		"first and last":               {cell(1, 1, 0, 0, 0), cell(1, api.MaxItems, 1, 0, 0), cell(api.MaxItems, 1, 0, 1, 0), cell(api.MaxItems, api.MaxItems, 0, 0, 1)},
		"a warehouse that falls":       {cell(1, 9, 1, 1, 1), cell(2, 3, 1, 1, 1)},
		"all free":                     {cell(1, 1, most, 0, 0)},
		"all held":                     {cell(1, 1, 0, most, 0)},
		"all out":                      {cell(1, 1, 0, 0, most)},
		"all of it, in three":          {cell(1, 1, most-2, 1, 1)},
		"all of it, in each of two":    {cell(1, 1, most, 0, 0), cell(1, 2, 1, most-2, 1)},
		"the same numbers, next to it": {cell(2, 2, 1, 1, 1), cell(2, 3, 1, 1, 1), cell(3, 3, 1, 1, 1)},
	} {
		before := slices.Clone(l)
		if why := stock.Check(l); why != api.OK || !slices.Equal(l, before) {
			t.Errorf("Check of %s: error %d", name, why)
		}
	}
}

// notRight are cells that are not right, each in one of the ways that the chapter names.
func notRight() map[string][]api.Cell {
	least, greatest := int64(math.MinInt64), int64(math.MaxInt64)
	l := map[string][]api.Cell{
		"one too many":                       many(api.MaxList + 1),
		"far too many":                       many(4 * api.MaxList),
		"items that fall":                    {cell(2, 1, 1, 0, 0), cell(1, 1, 1, 0, 0)},
		"items that fall, warehouses rising": {cell(2, 1, 1, 0, 0), cell(1, 2, 1, 0, 0)},
		"warehouses that fall":               {cell(1, 2, 1, 0, 0), cell(1, 1, 1, 0, 0)},
		"one twice":                          {cell(1, 1, 1, 0, 0), cell(1, 1, 1, 0, 0)},
		"one twice, with other units":        {cell(1, 1, 1, 0, 0), cell(1, 1, 0, 2, 0)},
		"one twice, far apart":               {cell(1, 1, 1, 0, 0), cell(1, 2, 1, 0, 0), cell(1, 1, 1, 0, 0)},
		"the last of many twice":             append(many(api.MaxList-1), cell(4, api.MaxItems-1, 1, 2, 3)),
		"the last of many falling":           append(many(api.MaxList-1), cell(4, 1, 1, 2, 3)),
		"sums that go round":                 {{Item: 1, Ware: 1, Free: greatest, Held: greatest, Out: 2, All: 0}},
		"sums that go round to one":          {{Item: 1, Ware: 1, Free: greatest, Held: greatest, Out: 3, All: 1}},
		"all above, the greatest":            {{Item: 1, Ware: 1, Free: greatest, All: greatest}},
		"all above, in three":                {cell(1, 1, most-1, 1, 1)},
		"one below and one above":            {{Item: 1, Ware: 1, Free: -1, Held: 2, Out: 0, All: 1}},
		"the least, going round":             {{Item: 1, Ware: 1, Free: least, Held: least, Out: 1, All: 1}},
		"nothing but All":                    {{Item: 1, Ware: 1, All: 1}},
		"All of nothing":                     {{Item: 1, Ware: 1, Free: 1}},
		"a cell that is none":                {{}},
	}
	for at := range four() {
		for i, spoil := range []func(*api.Cell){
			func(c *api.Cell) { c.Item = 0 },
			func(c *api.Cell) { c.Item = -1 },
			func(c *api.Cell) { c.Item = math.MinInt },
			func(c *api.Cell) { c.Item = api.MaxItems + 1 },
			func(c *api.Cell) { c.Item = math.MaxInt },
			func(c *api.Cell) { c.Ware = 0 },
			func(c *api.Cell) { c.Ware = -1 },
			func(c *api.Cell) { c.Ware = math.MinInt },
			func(c *api.Cell) { c.Ware = api.MaxItems + 1 },
			func(c *api.Cell) { c.Ware = math.MaxInt },
			func(c *api.Cell) { *c = cell(c.Item, c.Ware, -1, 5, 5) },
			func(c *api.Cell) { *c = cell(c.Item, c.Ware, 5, -1, 5) },
			func(c *api.Cell) { *c = cell(c.Item, c.Ware, 5, 5, -1) },
			func(c *api.Cell) { *c = cell(c.Item, c.Ware, 0, 0, -1) },
			func(c *api.Cell) { *c = cell(c.Item, c.Ware, least, 0, 0) },
			func(c *api.Cell) { *c = cell(c.Item, c.Ware, most+1, 0, 0) },
			func(c *api.Cell) { *c = cell(c.Item, c.Ware, 0, most+1, 0) },
			func(c *api.Cell) { *c = cell(c.Item, c.Ware, 0, 0, most+1) },
			func(c *api.Cell) { *c = cell(c.Item, c.Ware, most, 0, 1) },
			func(c *api.Cell) { c.All++ },
			func(c *api.Cell) { c.All-- },
			func(c *api.Cell) { c.All = -c.All },
			func(c *api.Cell) { c.All = least },
			func(c *api.Cell) { *c = api.Cell{} },
		} {
			k := four()
			spoil(&k[at])
			l[fmt.Sprintf("the cell at %d spoilt by %d", at, i)] = k
		}
	}
	return l
}

// Promise 13.1: cells that are not right are ErrState, of every call, ahead of all other errors and with nothing beside it. Rule P1: none panics.
func TestNotRight(t *testing.T) {
	for name, l := range notRight() {
		before := slices.Clone(l)
		if why := stock.Check(l); why != api.ErrState {
			t.Errorf("Check of %s: error %d", name, why)
		}
		for _, place := range [][2]int{{1, 1}, {3, 5}, {0, 0}, {api.MaxItems + 1, 1}} {
			if c, why := stock.Cell(l, place[0], place[1]); c != (api.Cell{}) || why != api.ErrState {
				t.Errorf("Cell of %s: %v, error %d", name, c, why)
			}
			for move, do := range moves() {
				for _, n := range []int64{1, 0, api.MaxQty + 1} {
					if k, why := do(l, place[0], place[1], n); k != nil || why != api.ErrState {
						t.Errorf("%s of %s: %d cells, error %d", move, name, len(k), why)
					}
				}
				if k, why := stock.Lines(l, []api.Line{{Item: place[0], Ware: place[1], Qty: 1}}, do); k != nil || why != api.ErrState {
					t.Errorf("Lines of %s by %s: %d cells, error %d", name, move, len(k), why)
				}
			}
		}
		if !slices.Equal(l, before) {
			t.Errorf("%s has been changed", name)
		}
	}
}

// Promise 13.1: the cell; one of noughts, if there is none; an error and nothing, if there can be none.
func TestCell(t *testing.T) {
	for _, x := range []struct {
		item, ware int
		want       api.Cell
		why        api.Errno
	}{
		{1, 2, cell(1, 2, 5, 3, 2), api.OK},
		{3, 1, cell(3, 1, 1, 0, 0), api.OK},
		{3, 5, cell(3, 5, 0, 4, 9), api.OK},
		{api.MaxItems, api.MaxItems, cell(api.MaxItems, api.MaxItems, 7, 7, 7), api.OK},
		{1, 1, cell(1, 1, 0, 0, 0), api.OK},
		{1, 3, cell(1, 3, 0, 0, 0), api.OK},
		{2, 2, cell(2, 2, 0, 0, 0), api.OK},
		{2, 1, cell(2, 1, 0, 0, 0), api.OK},
		{5, 3, cell(5, 3, 0, 0, 0), api.OK},
		{1, api.MaxItems, cell(1, api.MaxItems, 0, 0, 0), api.OK},
		{api.MaxItems, 1, cell(api.MaxItems, 1, 0, 0, 0), api.OK},
		{0, 2, api.Cell{}, api.ErrRange},
		{1, 0, api.Cell{}, api.ErrRange},
		{-1, 2, api.Cell{}, api.ErrRange},
		{1, -2, api.Cell{}, api.ErrRange},
		{api.MaxItems + 1, 2, api.Cell{}, api.ErrRange},
		{1, api.MaxItems + 1, api.Cell{}, api.ErrRange},
		{math.MinInt, math.MaxInt, api.Cell{}, api.ErrRange},
		{math.MaxInt, math.MinInt, api.Cell{}, api.ErrRange},
	} {
		l := four()
		if c, why := stock.Cell(l, x.item, x.ware); c != x.want || why != x.why {
			t.Errorf("Cell of item %d at %d: %v, error %d, and not %v, error %d", x.item, x.ware, c, why, x.want, x.why)
		}
		if !slices.Equal(l, four()) {
			t.Error("Cell has changed what it was handed")
		}
	}
	for _, none := range [][]api.Cell{nil, {}} {
		if c, why := stock.Cell(none, 4, 6); c != cell(4, 6, 0, 0, 0) || why != api.OK {
			t.Errorf("Cell of none: %v, error %d", c, why)
		}
	}
	l := many(api.MaxList)
	for _, want := range l {
		if c, why := stock.Cell(l, want.Item, want.Ware); c != want || why != api.OK {
			t.Fatalf("Cell of item %d at %d of many: %v, error %d", want.Item, want.Ware, c, why)
		}
	}
}
