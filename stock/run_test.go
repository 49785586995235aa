package stock_test

import (
	"maps"
	"math/rand/v2"
	"slices"
	"testing"

	"lading/api"
	"lading/stock"
)

// shelf is stock as the chapter tells it, in the plainest way: for each place what is free, held, out.
type shelf map[[2]int][3]int64

// fromTo are of which units each move but a restock makes which.
func fromTo() map[string][2]int {
	return map[string][2]int{"Reserve": {0, 1}, "Release": {1, 0}, "Send": {1, 2}, "TakeBack": {2, 0}}
}

func (s shelf) move(name string, item, ware int, n int64) api.Errno {
	if item < 1 || item > api.MaxItems || ware < 1 || ware > api.MaxItems || n < 1 || n > api.MaxQty {
		return api.ErrRange
	}
	at := [2]int{item, ware}
	units := s[at]
	if name == "Restock" {
		units[0] += n
		if units[0]+units[1]+units[2] > most {
			return api.ErrOver
		}
		if _, is := s[at]; !is && len(s) == api.MaxList {
			return api.ErrMany
		}
	} else {
		way := fromTo()[name]
		if units[way[0]] < n {
			return api.ErrStock
		}
		units[way[0]] -= n
		units[way[1]] += n
	}
	s[at] = units
	return api.OK
}

func (s shelf) cells() []api.Cell {
	var l []api.Cell
	for at, units := range s {
		l = append(l, cell(at[0], at[1], units[0], units[1], units[2]))
	}
	slices.SortFunc(l, func(a, b api.Cell) int { return (a.Item-b.Item)*2*api.MaxItems + a.Ware - b.Ware })
	return l
}

// asked is a random request: mostly of places that there are, of few units.
func asked(r *rand.Rand, s shelf) (name string, item, ware int, n int64) {
	name = []string{"Restock", "Reserve", "Release", "Send", "TakeBack"}[r.IntN(5)]
	item, ware = r.IntN(5)+1, r.IntN(3)+1
	n = r.Int64N(9) + 1
	switch units := s[[2]int{item, ware}]; r.IntN(12) {
	case 0:
		item = r.IntN(api.MaxItems+3) - 1
	case 1:
		ware = r.IntN(api.MaxItems+3) - 1
	case 2:
		n = []int64{0, -1, api.MaxQty, api.MaxQty + 1}[r.IntN(4)]
	case 3:
		n = units[r.IntN(3)] + r.Int64N(2)
	}
	return name, item, ware, n
}

// Promises 13.2, 13.5 and 13.7 and rule P7: a long run is what the plain shelf is, move by move; every cell adds up, no other is touched, and only a restock has more come.
func TestLongRun(t *testing.T) {
	for seed := range uint64(20) {
		r := rand.New(rand.NewPCG(seed, 13))
		s := shelf{}
		var l []api.Cell
		for range 1500 {
			name, item, ware, n := asked(r, s)
			before := maps.Clone(s)
			want := s.move(name, item, ware, n)
			k, why := moves()[name](l, item, ware, n)
			if why != want {
				t.Fatalf("%s of %d of item %d at %d: error %d, and not %d", name, n, item, ware, why, want)
			}
			if why != api.OK {
				if k != nil || !maps.Equal(before, s) {
					t.Fatalf("%s was refused, and has done something", name)
				}
				continue
			}
			if !slices.Equal(k, s.cells()) {
				t.Fatalf("%s of %d of item %d at %d: %v, and not %v", name, n, item, ware, k, s.cells())
			}
			must(t, stock.Check(k))
			onlyOne(t, name, l, k, item, ware, n)
			l = k
		}
	}
}

// onlyOne tells that one cell alone has been changed, and All by restocks alone.
func onlyOne(t *testing.T, name string, l, k []api.Cell, item, ware int, n int64) {
	t.Helper()
	isIt := func(c api.Cell) bool { return c.Item == item && c.Ware == ware }
	if !slices.Equal(slices.DeleteFunc(slices.Clone(l), isIt), slices.DeleteFunc(slices.Clone(k), isIt)) {
		t.Fatalf("%s of item %d at %d has changed another cell", name, item, ware)
	}
	was, why := stock.Cell(l, item, ware)
	must(t, why)
	is, why := stock.Cell(k, item, ware)
	must(t, why)
	more := int64(0)
	if name == "Restock" {
		more = n
	}
	if is.All != was.All+more || is.All != is.Free+is.Held+is.Out || min(is.Free, is.Held, is.Out) < 0 {
		t.Fatalf("%s of %d has made %v of %v", name, n, is, was)
	}
}

// Promise 13.6: Release takes Reserve back. TakeBack takes Send back, as far as what is free goes: what was held is free then.
func TestThereAndBack(t *testing.T) {
	r := rand.New(rand.NewPCG(6, 13))
	for range 3000 {
		l := []api.Cell{cell(1, 1, r.Int64N(20), r.Int64N(20), r.Int64N(20)), cell(1, 2, r.Int64N(20), r.Int64N(20), r.Int64N(20)), cell(2, 1, r.Int64N(20), r.Int64N(20), r.Int64N(20))}
		at := r.IntN(3)
		item, ware, n := l[at].Item, l[at].Ware, r.Int64N(20)+1
		if k, why := stock.Reserve(l, item, ware, n); why == api.OK {
			back, why := stock.Release(k, item, ware, n)
			if !slices.Equal(back, l) || why != api.OK {
				t.Fatalf("Reserve and Release of %d: %v of %v, error %d", n, back, l, why)
			}
		} else if n <= l[at].Free {
			t.Fatalf("Reserve of %d of %v: error %d", n, l[at], why)
		}
		if k, why := stock.Send(l, item, ware, n); why == api.OK {
			back, why := stock.TakeBack(k, item, ware, n)
			want, none := stock.Release(l, item, ware, n)
			if !slices.Equal(back, want) || why != api.OK || none != api.OK {
				t.Fatalf("Send and TakeBack of %d: %v, and not %v, error %d", n, back, want, why)
			}
		} else if n <= l[at].Held {
			t.Fatalf("Send of %d of %v: error %d", n, l[at], why)
		}
	}
}

// Promise 13.3: random lines are the moves of them one behind the other, or nothing.
func TestLinesAreMoves(t *testing.T) {
	r := rand.New(rand.NewPCG(3, 13))
	refused, done := 0, 0
	for range 4000 {
		s := shelf{}
		for range 6 {
			s[[2]int{r.IntN(3) + 1, r.IntN(2) + 1}] = [3]int64{r.Int64N(9), r.Int64N(9), r.Int64N(9)}
		}
		l := s.cells()
		var order []api.Line
		for range r.IntN(api.MaxLines + 1) {
			order = append(order, line(r.IntN(3)+1, r.IntN(2)+1, r.Int64N(3)+1))
		}
		if r.IntN(4) == 0 && len(order) > 0 {
			order[r.IntN(len(order))].Qty = 0
		}
		name := []string{"Restock", "Reserve", "Release", "Send", "TakeBack"}[r.IntN(5)]
		want := api.OK
		for _, x := range order {
			if want = s.move(name, x.Item, x.Ware, x.Qty); want != api.OK {
				break
			}
		}
		if want != api.OK {
			refused++
			lines(t, l, order, name, nil, want)
			continue
		}
		done++
		lines(t, l, order, name, s.cells(), api.OK)
	}
	if refused < 500 || done < 500 {
		t.Error("too few of a kind:", refused, done)
	}
}
