package saga_test

import (
	"math"
	"slices"
	"strings"
	"testing"

	"lading/api"
	"lading/saga"
)

// wrongs are numbers that no order, no item and no warehouse has.
func wrongs() []int { return []int{0, -1, math.MinInt, api.MaxItems + 1, math.MaxInt} }

// with is a state that was changed in other memory.
func with(s api.State, change func(*api.State)) api.State {
	s = clone(s)
	change(&s)
	return s
}

// kept is a state with a reply more, at its place.
func kept(s api.State, mark string, r api.Reply) api.State {
	return with(s, func(k *api.State) {
		k.Kept = append(k.Kept, api.Kept{Mark: mark, Reply: r})
		slices.SortFunc(k.Kept, func(a, b api.Kept) int { return strings.Compare(a.Mark, b.Mark) })
	})
}

// isRefused tells that a request is refused and changes nothing; with a mark, nothing but what is kept; and that it is answered the same with that mark once more.
func isRefused(t *testing.T, s api.State, a api.Ask, why api.Errno) {
	t.Helper()
	a.Mark = ""
	asks(t, s, a, s, refused(why))
	a.Mark = "of its own"
	k := asks(t, s, a, kept(s, a.Mark, refused(why)), refused(why))
	asks(t, k, a, k, refused(why))
}

// isDone tells what is answered to a request, and what is behind it; with a mark, that the reply is kept; and that it is answered the same with that mark once more, and not done.
func isDone(t *testing.T, s api.State, a api.Ask, want api.State, r api.Reply) {
	t.Helper()
	a.Mark = ""
	asks(t, s, a, want, r)
	for _, mark := range []string{"\x00\x00", "of its own", "\xff", strings.Repeat("m", api.MaxMark)} {
		a.Mark = mark
		k := asks(t, s, a, kept(want, mark, r), r)
		asks(t, k, a, k, r)
	}
}

// Promise 17.2: what is no kind is ErrType, whatever else is wrong, and with a mark that is kept; the state is as it was.
func TestAskOfNoKind(t *testing.T) {
	for _, kind := range every[api.AskKind]() {
		if slices.Contains(kinds(), kind) {
			continue
		}
		for _, mark := range []string{"", "new", "again", strings.Repeat("a", api.MaxMark+1)} {
			asks(t, all(), api.Ask{Mark: mark, Kind: kind, Order: 1, Lines: []api.Line{line(1, 1, 1, 1)}}, all(), refused(api.ErrType))
		}
	}
	full := api.State{Kept: marks(api.MaxList)}
	asks(t, full, api.Ask{Mark: "new"}, full, refused(api.ErrType))
	asks(t, full, api.Ask{Mark: "m00000"}, full, refused(api.ErrType))
}

// Promise 17.2: a mark that is too long is ErrLong, ahead of what the request itself is refused for, and is not kept.
func TestAskWithALongMark(t *testing.T) {
	for _, kind := range kinds() {
		for _, n := range []int{api.MaxMark + 1, 4 * api.MaxMark, 1 << 20} {
			a := api.Ask{Mark: strings.Repeat("a", n), Kind: kind, Order: 2, Lines: []api.Line{line(1, 1, 1, 0)}}
			asks(t, all(), a, all(), refused(api.ErrLong))
			a.Order, a.Lines = 0, nil
			asks(t, all(), a, all(), refused(api.ErrLong))
			full := api.State{Kept: marks(api.MaxList)}
			asks(t, full, a, full, refused(api.ErrLong))
		}
	}
}

// Promises 17.2 and 17.8: a mark that is kept is answered with its reply, whatever is asked with it, and nothing is done.
func TestAskWithAKeptMark(t *testing.T) {
	for _, k := range all().Kept {
		for _, kind := range kinds() {
			for _, o := range []int{0, 1, 2, 4, 10, 99} {
				for _, lines := range [][]api.Line{nil, {line(1, 1, 1, 0)}, {line(1, 1, 2, 300)}, {{}}} {
					asks(t, all(), api.Ask{Mark: k.Mark, Kind: kind, Order: o, Lines: lines}, all(), k.Reply)
				}
			}
		}
	}
}

// Promise 17.2: with MaxList marks kept a new one is ErrFull, and nothing is done; one that is kept is answered, and what has no mark is done.
func TestAskWithMarksFull(t *testing.T) {
	full := with(all(), func(s *api.State) { s.Kept = marks(api.MaxList) })
	last := with(full, func(s *api.State) { s.Kept = s.Kept[:api.MaxList-1] })
	for _, kind := range kinds() {
		for _, x := range []api.Ask{
			{Kind: kind, Order: 2, Lines: []api.Line{line(1, 1, 1, 0)}},
			{Kind: kind, Order: 10, Lines: []api.Line{line(1, 1, 1, 300)}},
			{Kind: kind, Order: 4},
			{Kind: kind},
		} {
			for _, mark := range []string{"a", "m00000 ", "z"} {
				x.Mark = mark
				asks(t, full, x, full, refused(api.ErrFull))
				k, r := ask(t, last, x)
				if len(k.Kept) != api.MaxList {
					t.Error("the last mark is not kept:", len(k.Kept))
				}
				asks(t, k, x, k, r)
			}
			for _, i := range []int{0, 1, api.MaxList / 2, api.MaxList - 1} {
				x.Mark = full.Kept[i].Mark
				asks(t, full, x, full, full.Kept[i].Reply)
			}
			x.Mark = ""
			want := shopOf(full)
			r := want.ask(x)
			asks(t, full, x, want.state(), r)
		}
	}
}

// Promise 17.3: a checkout is an order more, at its place, and a saga behind all.
func TestCheckout(t *testing.T) {
	for _, x := range []struct {
		id    int
		at    int
		price int64
		lines []api.Line
	}{
		{10, 9, 600, []api.Line{line(1, 1, 2, 300)}},
		{api.MaxOrders - 1, 9, 1, []api.Line{line(api.MaxItems, 1, 1, 1)}},
		{10, 9, 1 << 60, []api.Line{line(1, api.MaxItems, api.MaxQty, api.MaxUnit)}},
		{10, 9, 5, []api.Line{line(9, 9, 1, 0), line(9, 9, 1, 5), line(9, 9, api.MaxQty, 0)}},
		{10, 9, 16 * 7, slices.Repeat([]api.Line{line(5, 5, 7, 1)}, api.MaxLines)},
		{10, 9, 1 << 60, slices.Repeat([]api.Line{line(5, 5, 1<<16, api.MaxUnit)}, api.MaxLines)},
	} {
		want := with(all(), func(s *api.State) {
			s.Orders = slices.Insert(s.Orders, x.at, order(x.id, x.price, api.StatusOpen, x.lines...))
			s.Sagas = append(s.Sagas, api.Saga{Order: x.id, Kind: api.SagaCheckout})
		})
		isDone(t, all(), api.Ask{Kind: api.AskCheckout, Order: x.id, Lines: x.lines}, want, api.Reply{Status: api.StatusOpen, Amount: x.price})
	}
	first := order(1, 600, api.StatusOpen, line(1, 1, 2, 300))
	saga1 := []api.Saga{{Order: 1, Kind: api.SagaCheckout}}
	isDone(t, api.State{Limit: 1}, api.Ask{Kind: api.AskCheckout, Order: 1, Lines: first.Lines}, api.State{Limit: 1, Orders: []api.Order{first}, Sagas: saga1}, api.Reply{Status: api.StatusOpen, Amount: 600})
	last := api.State{Limit: 2, Orders: []api.Order{order(2, 5, api.StatusReturned, line(1, 1, 1, 5))}}
	want := with(last, func(s *api.State) { s.Orders, s.Sagas = slices.Insert(s.Orders, 0, first), saga1 })
	isDone(t, last, api.Ask{Kind: api.AskCheckout, Order: 1, Lines: first.Lines}, want, api.Reply{Status: api.StatusOpen, Amount: 600})
}

// Promises 17.3 and 17.9, rule P3: each error of a checkout, at the edges that are named, and which one is told where several apply.
func TestCheckoutIsRefused(t *testing.T) {
	good := []api.Line{line(1, 1, 2, 300)}
	full := with(all(), func(s *api.State) { s.Limit = len(s.Orders) })
	for _, s := range []api.State{all(), full} {
		for _, id := range wrongs() {
			for _, lines := range [][]api.Line{good, nil, {{}}, slices.Repeat(good, api.MaxLines+1)} {
				isRefused(t, s, api.Ask{Kind: api.AskCheckout, Order: id, Lines: lines}, api.ErrRange)
			}
		}
		for _, id := range []int{2, 4, 10, api.MaxOrders} { // there already, or not
			for _, lines := range [][]api.Line{nil, {}, {{}}, {line(1, 1, 0, 300)}, {line(1, 1, -1, 300)}, {line(1, 1, api.MaxQty+1, 1)}, {line(1, 1, 1, -1)}, {line(1, 1, 1, api.MaxUnit+1)}, {line(1, 1, 1, 0)}, {line(1, 1, 1, 1), line(1, 1, 0, 0)}} {
				isRefused(t, s, api.Ask{Kind: api.AskCheckout, Order: id, Lines: lines}, api.ErrRange)
			}
			for _, wrong := range wrongs() {
				for at := range 3 {
					lines := slices.Insert([]api.Line{line(1, 1, 1, 1), line(2, 2, 2, 2)}, at, line(wrong, 1, 1, 1))
					isRefused(t, s, api.Ask{Kind: api.AskCheckout, Order: id, Lines: lines}, api.ErrRange)
					lines[at] = line(1, wrong, 1, 1)
					isRefused(t, s, api.Ask{Kind: api.AskCheckout, Order: id, Lines: lines}, api.ErrRange)
				}
				many := append(slices.Repeat(good, api.MaxLines), line(wrong, 1, 1, 1))
				isRefused(t, s, api.Ask{Kind: api.AskCheckout, Order: id, Lines: many}, api.ErrRange)
			}
			isRefused(t, s, api.Ask{Kind: api.AskCheckout, Order: id, Lines: slices.Repeat(good, api.MaxLines+1)}, api.ErrMany)
			isRefused(t, s, api.Ask{Kind: api.AskCheckout, Order: id, Lines: slices.Repeat([]api.Line{line(1, 1, 0, -1)}, api.MaxLines+1)}, api.ErrMany)
			most := line(1, 1, api.MaxQty, api.MaxUnit)
			isRefused(t, s, api.Ask{Kind: api.AskCheckout, Order: id, Lines: []api.Line{most, line(1, 1, 1, 1)}}, api.ErrOver)
			isRefused(t, s, api.Ask{Kind: api.AskCheckout, Order: id, Lines: []api.Line{most, most, most}}, api.ErrOver)
			isRefused(t, s, api.Ask{Kind: api.AskCheckout, Order: id, Lines: slices.Repeat([]api.Line{most}, api.MaxLines)}, api.ErrOver)
			isRefused(t, s, api.Ask{Kind: api.AskCheckout, Order: id, Lines: append(slices.Repeat([]api.Line{most}, 9), line(1, 1, 0, 0))}, api.ErrRange)
		}
		for _, o := range s.Orders {
			isRefused(t, s, api.Ask{Kind: api.AskCheckout, Order: o.Id, Lines: good}, api.ErrTwice)
			isRefused(t, s, api.Ask{Kind: api.AskCheckout, Order: o.Id, Lines: o.Lines}, api.ErrTwice)
		}
	}
	isRefused(t, full, api.Ask{Kind: api.AskCheckout, Order: 10, Lines: good}, api.ErrFull)
	isRefused(t, api.State{}, api.Ask{Kind: api.AskCheckout, Order: 10, Lines: good}, api.ErrFull)
	isRefused(t, manyOrders(api.MaxOrders), api.Ask{Kind: api.AskCheckout, Order: 10, Lines: good}, api.ErrTwice)
}

// Promise 17.3: a cancel has the order's saga go back, where that stands; one that has done nothing is over at once.
func TestCancel(t *testing.T) {
	want := with(all(), func(s *api.State) {
		s.Orders[1].Status = api.StatusCancelling
		s.Sagas[0] = api.Saga{Order: 2, Kind: api.SagaCancel, At: 3, Undoing: true}
	})
	isDone(t, all(), api.Ask{Kind: api.AskCancel, Order: 2}, want, api.Reply{Status: api.StatusCancelling, Amount: 350})
	isDone(t, all(), api.Ask{Kind: api.AskCancel, Order: 2, Lines: []api.Line{{Item: -1}, {}}}, want, api.Reply{Status: api.StatusCancelling, Amount: 350})
	want = with(all(), func(s *api.State) {
		s.Orders[8].Status = api.StatusCancelling
		s.Sagas[1] = api.Saga{Order: 9, Kind: api.SagaCancel, At: 2, Undoing: true}
	})
	isDone(t, all(), api.Ask{Kind: api.AskCancel, Order: 9}, want, api.Reply{Status: api.StatusCancelling, Amount: 1000})
	want = with(all(), func(s *api.State) {
		s.Orders[0].Status = api.StatusCancelled
		s.Sagas = s.Sagas[:4]
	})
	isDone(t, all(), api.Ask{Kind: api.AskCancel, Order: 1}, want, api.Reply{Status: api.StatusCancelled, Amount: 600})
	for _, undoing := range []bool{false, true} {
		for at := 1; at < 5; at++ {
			s := one(api.Saga{Order: 3, Kind: api.SagaCheckout, At: at, Undoing: undoing})
			isDone(t, s, api.Ask{Kind: api.AskCancel, Order: 3}, one(api.Saga{Order: 3, Kind: api.SagaCancel, At: at, Undoing: true}), api.Reply{Status: api.StatusCancelling, Amount: 60})
		}
	}
	three := manyOrders(3)
	want = with(three, func(s *api.State) {
		s.Orders[1].Status = api.StatusCancelled
		s.Sagas = []api.Saga{s.Sagas[0], s.Sagas[2]}
	})
	isDone(t, three, api.Ask{Kind: api.AskCancel, Order: 2}, want, api.Reply{Status: api.StatusCancelled, Amount: 60})
}

// Promise 17.3: a return begins behind all sagas.
func TestReturn(t *testing.T) {
	for at, o := range all().Orders {
		if o.Status != api.StatusFulfilled {
			continue
		}
		want := with(all(), func(s *api.State) {
			s.Orders[at].Status = api.StatusReturning
			s.Sagas = append(s.Sagas, api.Saga{Order: o.Id, Kind: api.SagaReturn})
		})
		isDone(t, all(), api.Ask{Kind: api.AskReturn, Order: o.Id}, want, api.Reply{Status: api.StatusReturning, Amount: o.Price})
		isDone(t, all(), api.Ask{Kind: api.AskReturn, Order: o.Id, Lines: []api.Line{{Item: -1}, {}}}, want, api.Reply{Status: api.StatusReturning, Amount: o.Price})
	}
}

// Promise 17.3: ErrUnknown of what is no order, ErrState of what cannot be cancelled or returned, StatusOpen and StatusFulfilled aside.
func TestCancelAndReturnAreRefused(t *testing.T) {
	for kind, from := range map[api.AskKind]api.Status{api.AskCancel: api.StatusOpen, api.AskReturn: api.StatusFulfilled} {
		tried := 0
		for _, o := range all().Orders {
			if o.Status != from {
				isRefused(t, all(), api.Ask{Kind: kind, Order: o.Id}, api.ErrState)
				tried++
			}
		}
		if tried < 7 {
			t.Error("too few:", tried)
		}
		for _, id := range append(wrongs(), 10, 11, api.MaxOrders-1) {
			isRefused(t, all(), api.Ask{Kind: kind, Order: id}, api.ErrUnknown)
			isRefused(t, api.State{}, api.Ask{Kind: kind, Order: id}, api.ErrUnknown)
		}
	}
}

// Promise 17.3: a restock of new cells and of those that are there, one line or as many as may be, has their units be free.
func TestRestock(t *testing.T) {
	want := with(all(), func(s *api.State) { s.Cells[0] = cell(1, 1, 25, 4, 0) })
	for _, id := range []int{0, -1, 3, 10, math.MaxInt} {
		isDone(t, all(), api.Ask{Kind: api.AskRestock, Order: id, Lines: []api.Line{line(1, 1, 5, 0)}}, want, api.Reply{})
	}
	want = with(all(), func(s *api.State) {
		s.Cells = []api.Cell{cell(1, 1, 22, 4, 0), cell(1, 2, 6, 5, 0), cell(1, 3, api.MaxQty, 0, 0), cell(2, 1, 9, 1, 6), cell(api.MaxItems, api.MaxItems, 0, 0, 1)}
	})
	isDone(t, all(), api.Ask{Kind: api.AskRestock, Lines: []api.Line{line(2, 1, 3, 0), line(1, 3, api.MaxQty, 0), line(1, 1, 2, 0), line(2, 1, 4, 0)}}, want, api.Reply{})
	isDone(t, api.State{}, api.Ask{Kind: api.AskRestock, Lines: slices.Repeat([]api.Line{line(7, 8, 3, 0)}, api.MaxLines)}, api.State{Cells: []api.Cell{cell(7, 8, 48, 0, 0)}}, api.Reply{})
}

// Promises 17.3 and 17.9, rule P3: each error of a restock, at the edges that are named, and which one is told where several apply; none of its lines is done then.
func TestRestockIsRefused(t *testing.T) {
	good := line(1, 1, 5, 0)
	s := with(all(), func(s *api.State) { s.Cells[1] = cell(1, 2, 1<<50-7, 5, 0) })
	is := func(why api.Errno, lines ...api.Line) {
		t.Helper()
		isRefused(t, s, api.Ask{Kind: api.AskRestock, Order: 1, Lines: lines}, why)
	}
	is(api.ErrRange)
	for _, unit := range []int64{1, -1, 300, math.MinInt64, math.MaxInt64} {
		is(api.ErrRange, line(1, 1, 5, unit))
		is(api.ErrRange, good, line(1, 1, 5, unit), good)
		is(api.ErrRange, line(1, 2, 5, 0), line(1, 1, 5, unit)) // ahead of ErrOver
		is(api.ErrRange, append(slices.Repeat([]api.Line{good}, api.MaxLines), line(1, 1, 5, unit))...)
	}
	is(api.ErrMany, slices.Repeat([]api.Line{good}, api.MaxLines+1)...)
	is(api.ErrMany, slices.Repeat([]api.Line{{}}, api.MaxLines+1)...)
	is(api.ErrMany, slices.Repeat([]api.Line{line(1, 2, 5, 0)}, api.MaxLines+1)...)
	for _, wrong := range wrongs() {
		is(api.ErrRange, good, line(wrong, 1, 1, 0))
		is(api.ErrRange, line(1, wrong, 1, 0), good)
	}
	for _, n := range []int64{0, -1, math.MinInt64, api.MaxQty + 1, math.MaxInt64} {
		is(api.ErrRange, good, line(1, 1, n, 0))
	}
	is(api.ErrOver, good, line(1, 2, 3, 0))
	is(api.ErrOver, line(1, 2, 1, 0), line(1, 2, 1, 0), line(1, 2, 1, 0))
	is(api.ErrOver, line(1, 2, 3, 0), line(1, 1, 0, 0))
	is(api.ErrRange, line(1, 1, 0, 0), line(1, 2, 3, 0))
	full := rights()["as many cells as may be"]
	isRefused(t, full, api.Ask{Kind: api.AskRestock, Lines: []api.Line{good, line(9, 9, 1, 0)}}, api.ErrMany)
}

// Promise 17.3: the status and the price of each order; ErrUnknown of what is none.
func TestStatus(t *testing.T) {
	for _, o := range all().Orders {
		for _, lines := range [][]api.Line{nil, {{Item: -1}}, slices.Repeat([]api.Line{{}}, 99)} {
			isDone(t, all(), api.Ask{Kind: api.AskStatus, Order: o.Id, Lines: lines}, all(), api.Reply{Status: o.Status, Amount: o.Price})
		}
	}
	for _, id := range append(wrongs(), 10, 11, api.MaxOrders-1) {
		isRefused(t, all(), api.Ask{Kind: api.AskStatus, Order: id}, api.ErrUnknown)
	}
}

// Promise 17.3: what is free of an item at a warehouse; its units, its price and the order are no matter.
func TestFree(t *testing.T) {
	cells := append(all().Cells, cell(1, 3, 0, 0, 0), cell(5, 5, 0, 0, 0), cell(1, api.MaxItems, 0, 0, 0), cell(api.MaxItems, 1, 0, 0, 0))
	for _, c := range cells {
		for _, x := range []api.Line{line(c.Item, c.Ware, 0, 0), line(c.Item, c.Ware, -1, -1), line(c.Item, c.Ware, math.MaxInt64, math.MinInt64)} {
			isDone(t, all(), api.Ask{Kind: api.AskFree, Order: -5, Lines: []api.Line{x}}, all(), api.Reply{Amount: c.Free})
		}
	}
	for _, lines := range [][]api.Line{nil, {}, {line(1, 1, 0, 0), line(1, 1, 0, 0)}, slices.Repeat([]api.Line{line(1, 1, 0, 0)}, 99)} {
		isRefused(t, all(), api.Ask{Kind: api.AskFree, Lines: lines}, api.ErrRange)
	}
	for _, wrong := range wrongs() {
		isRefused(t, all(), api.Ask{Kind: api.AskFree, Lines: []api.Line{line(wrong, 1, 0, 0)}}, api.ErrRange)
		isRefused(t, all(), api.Ask{Kind: api.AskFree, Lines: []api.Line{line(1, wrong, 0, 0)}}, api.ErrRange)
	}
}

// isBig tells whether a state has long lists, of which less is tried.
func isBig(s api.State) bool {
	return len(s.Cells)+len(s.Books.Postings)+len(s.Orders)+len(s.Kept) > 99
}

// Promises 17.2 and 17.3: what is asked of right states, at their ends too, is what the plain shop says.
func TestAskOfRightStates(t *testing.T) {
	for name, s := range rights() {
		ids, marks := []int{0, 1, 2, 3, 4, 9, api.MaxOrders, api.MaxOrders + 1}, []string{"", "b", "new", "m00007"}
		if isBig(s) {
			ids, marks = []int{1, 9}, []string{"", "m00007"}
		}
		for _, kind := range append(kinds(), api.AskNone, api.AskCount) {
			for _, mark := range marks {
				for _, id := range ids {
					for _, lines := range [][]api.Line{nil, {line(1, 1, 2, 300)}, {line(1, 1, 2, 0)}} {
						a := api.Ask{Mark: mark, Kind: kind, Order: id, Lines: lines}
						want := shopOf(s)
						r := want.ask(a)
						k, got, why := saga.Ask(s, a)
						if got != r || why != api.OK || !same(k, want.state()) {
							t.Fatalf("Ask of %s: %v: %v, error %d, and not %v", name, a, got, why, r)
						}
					}
				}
			}
		}
	}
}
