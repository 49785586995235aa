package stock_test

import (
	"fmt"
	"math"
	"slices"
	"testing"

	"lading/api"
	"lading/stock"
)

func line(item, ware int, qty int64) api.Line {
	return api.Line{Item: item, Ware: ware, Qty: qty, Unit: 300}
}

// lines tells what Lines answers, and that it changes nothing that it is handed.
func lines(t *testing.T, l []api.Cell, order []api.Line, name string, want []api.Cell, why api.Errno) {
	t.Helper()
	before, asked := slices.Clone(l), slices.Clone(order)
	k, got := stock.Lines(l, order, moves()[name])
	if !slices.Equal(k, want) || got != why {
		t.Errorf("Lines of %v by %s: %.200s, error %d, and not %.200s, error %d", order, name, fmt.Sprint(k), got, fmt.Sprint(want), why)
	}
	if !slices.Equal(l, before) || !slices.Equal(order, asked) {
		t.Error("Lines has changed what it was handed")
	}
}

// Promise 13.3: the cells as they are, if there are no lines, right or not; in new memory.
func TestNoLines(t *testing.T) {
	for name := range moves() {
		lines(t, nil, nil, name, nil, api.OK)
		lines(t, []api.Cell{}, []api.Line{}, name, nil, api.OK)
		lines(t, four(), nil, name, four(), api.OK)
		lines(t, four(), []api.Line{}, name, four(), api.OK)
	}
	for _, l := range notRight() {
		lines(t, l, nil, "Reserve", l, api.OK)
	}
	l := four()
	k, why := stock.Lines(l, nil, stock.Send)
	must(t, why)
	spoil(l)
	if !slices.Equal(k, four()) {
		t.Error("Lines of none answers what it was handed")
	}
}

// Promise 13.3: one line is its move; many are done one behind the other, on what the one ahead has left.
func TestLines(t *testing.T) {
	for name, do := range moves() {
		want, why := do(four(), 1, 2, 2)
		must(t, why)
		lines(t, four(), []api.Line{line(1, 2, 2)}, name, want, api.OK)
	}
	lines(t, nil, []api.Line{line(2, 1, 3), line(1, 1, 4), line(2, 1, 5)}, "Restock", []api.Cell{cell(1, 1, 4, 0, 0), cell(2, 1, 8, 0, 0)}, api.OK)
	three := []api.Cell{cell(1, 1, 9, 9, 9), cell(1, 2, 9, 9, 9), cell(2, 1, 9, 9, 9)}
	order := []api.Line{line(2, 1, 1), line(1, 1, 2), line(1, 2, 3), line(1, 1, 4)}
	lines(t, three, order, "Restock", []api.Cell{cell(1, 1, 15, 9, 9), cell(1, 2, 12, 9, 9), cell(2, 1, 10, 9, 9)}, api.OK)
	lines(t, three, order, "Reserve", []api.Cell{cell(1, 1, 3, 15, 9), cell(1, 2, 6, 12, 9), cell(2, 1, 8, 10, 9)}, api.OK)
	lines(t, three, order, "Release", []api.Cell{cell(1, 1, 15, 3, 9), cell(1, 2, 12, 6, 9), cell(2, 1, 10, 8, 9)}, api.OK)
	lines(t, three, order, "Send", []api.Cell{cell(1, 1, 9, 3, 15), cell(1, 2, 9, 6, 12), cell(2, 1, 9, 8, 10)}, api.OK)
	lines(t, three, order, "TakeBack", []api.Cell{cell(1, 1, 15, 9, 3), cell(1, 2, 12, 9, 6), cell(2, 1, 10, 9, 8)}, api.OK)
}

// Promise 13.3: of one cell twice the second line finds what the first one has left.
func TestLinesOfOneCellTwice(t *testing.T) {
	l := []api.Cell{cell(1, 1, 5, 5, 5)}
	lines(t, l, []api.Line{line(1, 1, 2), line(1, 1, 3)}, "Reserve", []api.Cell{cell(1, 1, 0, 10, 5)}, api.OK)
	lines(t, l, []api.Line{line(1, 1, 3), line(1, 1, 3)}, "Reserve", nil, api.ErrStock)
	lines(t, l, []api.Line{line(1, 1, 5), line(1, 1, 1)}, "Send", nil, api.ErrStock)
	lines(t, l, []api.Line{line(1, 1, 5), line(1, 1, 1)}, "Release", nil, api.ErrStock)
	lines(t, l, []api.Line{line(1, 1, 5), line(1, 1, 1)}, "TakeBack", nil, api.ErrStock)
	lines(t, []api.Cell{cell(1, 1, most-3, 0, 0)}, []api.Line{line(1, 1, 2), line(1, 1, 1)}, "Restock", []api.Cell{cell(1, 1, most, 0, 0)}, api.OK)
	lines(t, []api.Cell{cell(1, 1, most-3, 0, 0)}, []api.Line{line(1, 1, 2), line(1, 1, 2)}, "Restock", nil, api.ErrOver)
	lines(t, many(api.MaxList-1), []api.Line{line(8, 1, 1), line(8, 1, 1)}, "Restock", append(many(api.MaxList-1), cell(8, 1, 2, 0, 0)), api.OK)
	lines(t, many(api.MaxList-1), []api.Line{line(8, 1, 1), line(8, 2, 1)}, "Restock", nil, api.ErrMany)
}

// Promise 13.3 and rule P2: the error of the first line that is refused, at the first, a middle or the last place, with nothing beside it.
func TestLinesAreRefused(t *testing.T) {
	for _, bad := range []struct {
		line api.Line
		why  api.Errno
	}{
		{line(1, 1, 6), api.ErrStock},
		{line(4, 4, 1), api.ErrStock},
		{line(0, 1, 1), api.ErrRange},
		{line(1, api.MaxItems+1, 1), api.ErrRange},
		{line(1, 1, 0), api.ErrRange},
		{line(1, 1, -1), api.ErrRange},
		{line(1, 1, math.MinInt64), api.ErrRange},
		{line(1, 1, api.MaxQty+1), api.ErrRange},
		{line(1, 1, math.MaxInt64), api.ErrRange},
		{api.Line{}, api.ErrRange},
	} {
		for _, name := range []string{"Reserve", "Release", "Send", "TakeBack"} {
			for at := range 4 {
				order := slices.Insert([]api.Line{line(1, 1, 1), line(2, 2, 1), line(2, 2, 2)}, at, bad.line)
				lines(t, []api.Cell{cell(1, 1, 5, 5, 5), cell(2, 2, 5, 5, 5)}, order, name, nil, bad.why)
			}
		}
	}
	l := []api.Cell{cell(1, 1, 5, 5, 5)}
	lines(t, l, []api.Line{line(1, 1, 6), line(0, 0, 0)}, "Reserve", nil, api.ErrStock)
	lines(t, l, []api.Line{line(1, 1, 5), line(0, 0, 0), line(1, 1, 1)}, "Reserve", nil, api.ErrRange)
}

// Promise 13.3: a move that is nil is ErrNil, whatever the cells and lines are.
func TestLinesOfNoMove(t *testing.T) {
	for _, l := range [][]api.Cell{nil, {}, four(), {{}}, many(api.MaxList + 1)} {
		for _, order := range [][]api.Line{nil, {}, {line(1, 2, 1)}, {{}}} {
			before := slices.Clone(l)
			if k, why := stock.Lines(l, order, nil); k != nil || why != api.ErrNil || !slices.Equal(l, before) {
				t.Errorf("Lines of no move: %d cells, error %d", len(k), why)
			}
		}
	}
}

// Promise 13.3: the move is asked line by line, in order, with the line's numbers and what it answered ahead, and no more behind an error.
func TestLinesByAnyMove(t *testing.T) {
	var asked []string
	move := func(l []api.Cell, item, ware int, n int64) ([]api.Cell, api.Errno) {
		asked = append(asked, fmt.Sprint(len(l), item, ware, n))
		if n == 99 {
			return many(3), api.ErrConflict
		}
		return many(len(l) + 2), api.OK
	}
	k, why := stock.Lines(many(1), []api.Line{line(-1, 5, 7), line(0, 0, 0), line(math.MaxInt, 1, -3)}, move)
	if !slices.Equal(k, many(7)) || why != api.OK || !slices.Equal(asked, []string{"1 -1 5 7", "3 0 0 0", fmt.Sprint(5, math.MaxInt, 1, -3)}) {
		t.Error("Lines:", k, why, asked)
	}
	asked = nil
	k, why = stock.Lines(nil, []api.Line{line(1, 1, 1), line(2, 2, 99), line(3, 3, 3)}, move)
	if k != nil || why != api.ErrConflict || !slices.Equal(asked, []string{"0 1 1 1", "2 2 2 99"}) {
		t.Error("Lines that are refused:", k, why, asked)
	}
}

// Promise 13.4: a move that changes, answers or keeps what it is given does so neither to what was handed in nor to what is answered.
func TestLinesByAMoveThatSpoils(t *testing.T) {
	var kept []api.Cell
	move := func(l []api.Cell, item, ware int, n int64) ([]api.Cell, api.Errno) {
		l[0].Free += n
		kept = l
		return l, api.OK
	}
	l := four()
	k, why := stock.Lines(l, []api.Line{line(1, 1, 1), line(1, 1, 2)}, move)
	if !slices.Equal(l, four()) {
		t.Error("what was handed in has been changed:", l)
	}
	spoil(kept)
	want := four()
	want[0].Free += 3
	if !slices.Equal(k, want) || why != api.OK {
		t.Error("what was answered has been changed:", k, why)
	}
}

// Rule P1: Lines does not panic where its move does; nothing is done then.
func TestLinesByAMoveThatPanics(t *testing.T) {
	for _, at := range []int64{1, 2, 3} {
		move := func(l []api.Cell, item, ware int, n int64) ([]api.Cell, api.Errno) {
			if n == at {
				panic("no move")
			}
			return l, api.OK
		}
		if k, why := stock.Lines(four(), []api.Line{line(1, 1, 1), line(1, 1, 2), line(1, 1, 3)}, move); k != nil || why != api.ErrNil {
			t.Error("Lines:", k, why)
		}
	}
}

// Promise 13.4: what Lines answers shares no memory with what it was handed, nor with an earlier answer.
func TestLinesAreNewMemory(t *testing.T) {
	order := []api.Line{line(1, 2, 1), line(3, 5, 1)}
	for name, do := range moves() {
		if name == "Reserve" {
			order[1] = line(3, 1, 1)
		} else {
			order[1] = line(1, 2, 1)
		}
		l := four()
		k, why := stock.Lines(l, order, do)
		must(t, why)
		again, why := stock.Lines(l, order, do)
		must(t, why)
		want := slices.Clone(k)
		spoil(l)
		if !slices.Equal(k, want) {
			t.Errorf("Lines by %s has kept what it was handed", name)
		}
		spoil(k)
		if !slices.Equal(again, want) {
			t.Errorf("Lines by %s answers what it has answered", name)
		}
	}
}
