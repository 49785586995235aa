package saga_test

import (
	"fmt"
	"math"
	"slices"
	"strings"
	"testing"

	"lading/api"
	"lading/saga"
)

const (
	accept = api.VerdictAccept
	reject = api.VerdictReject
)

func must(t *testing.T, why api.Errno) {
	t.Helper()
	if why != api.OK {
		t.Fatal("error", why)
	}
}

// kinds are those of requests.
func kinds() []api.AskKind {
	return []api.AskKind{api.AskCheckout, api.AskCancel, api.AskReturn, api.AskRestock, api.AskStatus, api.AskFree}
}

// every is each number that a kind can be.
func every[K ~uint8]() []K {
	var l []K
	for n := range 1 << 8 {
		l = append(l, K(n))
	}
	return l
}

func line(item, ware int, qty, unit int64) api.Line {
	return api.Line{Item: item, Ware: ware, Qty: qty, Unit: unit}
}

func cell(item, ware int, free, held, out int64) api.Cell {
	return api.Cell{Item: item, Ware: ware, Free: free, Held: held, Out: out, All: free + held + out}
}

func order(id int, price int64, s api.Status, lines ...api.Line) api.Order {
	return api.Order{Id: id, Lines: lines, Price: price, Status: s}
}

// posted are an order's postings of one amount: authorised, then captured, then refunded, as many of them as are asked for.
func posted(order int, amount int64, n int) []api.Posting {
	return []api.Posting{
		{Order: order, From: api.AccountCard, To: api.AccountHold, Amount: amount},
		{Order: order, From: api.AccountHold, To: api.AccountSales, Amount: amount},
		{Order: order, From: api.AccountSales, To: api.AccountCard, Amount: amount},
	}[:n]
}

// all is a state with an order of each status, sagas of each kind, forwards and back, and something in each list.
func all() api.State {
	return api.State{
		Limit: 12,
		Cells: []api.Cell{cell(1, 1, 20, 4, 0), cell(1, 2, 6, 5, 0), cell(2, 1, 2, 1, 6), cell(api.MaxItems, api.MaxItems, 0, 0, 1)},
		Books: api.Books{
			Pays:     []api.Pay{{Order: 2, Open: 350}, {Order: 3, Captured: 10, Refunded: 10}, {Order: 4, Captured: 100}, {Order: 5, Captured: 35}, {Order: 7, Captured: 60}, {Order: 8, Captured: 81, Refunded: 81}, {Order: 9, Open: 1000}, {Order: api.MaxOrders, Captured: 1 << 40}},
			Postings: slices.Concat(posted(8, 81, 3), posted(4, 100, 2), posted(2, 350, 1), posted(3, 10, 3), posted(7, 60, 2), posted(5, 35, 2), posted(api.MaxOrders, 1<<40, 2), posted(9, 1000, 1)),
		},
		Ships: []api.Shipment{{Order: 2, State: api.ShipBooked}, {Order: 3, State: api.ShipCancelled}, {Order: 4, State: api.ShipSent}, {Order: 5, State: api.ShipBooked}, {Order: 7, State: api.ShipLabelled}, {Order: 8, State: api.ShipBack}, {Order: api.MaxOrders, State: api.ShipThere}},
		Orders: []api.Order{
			order(1, 600, api.StatusOpen, line(1, 1, 2, 300)),
			order(2, 350, api.StatusOpen, line(1, 1, 3, 100), line(2, 1, 1, 50)),
			order(3, 10, api.StatusRejected, line(1, 1, 1, 10)),
			order(4, 100, api.StatusFulfilled, line(2, 1, 4, 25)),
			order(5, 35, api.StatusCancelling, line(1, 2, 5, 7)),
			order(6, 1, api.StatusCancelled, line(1, 2, 1, 1)),
			order(7, 60, api.StatusReturning, line(2, 1, 2, 30)),
			order(8, 81, api.StatusReturned, line(1, 1, 9, 9)),
			order(9, 1000, api.StatusOpen, line(1, 1, 1, 1000)),
			order(api.MaxOrders, 1<<40, api.StatusFulfilled, line(api.MaxItems, api.MaxItems, 1, 1<<40)),
		},
		Sagas: []api.Saga{
			{Order: 2, Kind: api.SagaCheckout, At: 3},
			{Order: 9, Kind: api.SagaCheckout, At: 2, Undoing: true},
			{Order: 7, Kind: api.SagaReturn, At: 1},
			{Order: 5, Kind: api.SagaCancel, At: 4, Undoing: true},
			{Order: 1, Kind: api.SagaCheckout},
		},
		Kept: []api.Kept{
			{Mark: "\x00", Reply: api.Reply{Status: api.StatusOpen, Amount: 600}},
			{Mark: "again", Reply: api.Reply{Why: api.ErrType}},
			{Mark: "b", Reply: api.Reply{Status: api.StatusReturned, Amount: math.MaxInt64}},
			{Mark: strings.Repeat("\xff", api.MaxMark)},
		},
	}
}

// clone is a state in other memory.
func clone(s api.State) api.State {
	s.Cells, s.Ships, s.Sagas, s.Kept = slices.Clone(s.Cells), slices.Clone(s.Ships), slices.Clone(s.Sagas), slices.Clone(s.Kept)
	s.Books = api.Books{Pays: slices.Clone(s.Books.Pays), Postings: slices.Clone(s.Books.Postings)}
	s.Orders = slices.Clone(s.Orders)
	for i := range s.Orders {
		s.Orders[i].Lines = slices.Clone(s.Orders[i].Lines)
	}
	return s
}

func sameOrder(a, b api.Order) bool {
	return a.Id == b.Id && a.Price == b.Price && a.Status == b.Status && slices.Equal(a.Lines, b.Lines)
}

// same tells whether two states are one, nil and empty lists being alike.
func same(a, b api.State) bool {
	return a.Limit == b.Limit && slices.Equal(a.Cells, b.Cells) && slices.Equal(a.Books.Pays, b.Books.Pays) && slices.Equal(a.Books.Postings, b.Books.Postings) &&
		slices.Equal(a.Ships, b.Ships) && slices.EqualFunc(a.Orders, b.Orders, sameOrder) && slices.Equal(a.Sagas, b.Sagas) && slices.Equal(a.Kept, b.Kept)
}

// short is a state as a text, if it is not too long.
func short(s api.State) string { return fmt.Sprintf("%.900s", fmt.Sprintf("%+v", s)) }

// ask asks, and tells that the state behind it is right, and that nothing was changed that was handed in.
func ask(t *testing.T, s api.State, a api.Ask) (api.State, api.Reply) {
	t.Helper()
	before, lines := clone(s), slices.Clone(a.Lines)
	k, r, why := saga.Ask(s, a)
	if why != api.OK {
		t.Fatalf("Ask of %v: error %d", a, why)
	}
	if !same(s, before) || !slices.Equal(a.Lines, lines) {
		t.Errorf("Ask of %v has changed what it was handed", a)
	}
	if why := saga.Check(k); why != api.OK {
		t.Fatalf("Ask of %v leaves a state that is not right: %s", a, short(k))
	}
	return k, r
}

// asks tells what is answered to a request, and what is behind it.
func asks(t *testing.T, s api.State, a api.Ask, want api.State, reply api.Reply) api.State {
	t.Helper()
	k, r := ask(t, s, a)
	if r != reply {
		t.Errorf("Ask of %v: %v, and not %v", a, r, reply)
	}
	if !same(k, want) {
		t.Errorf("Ask of %v leaves %s, and not %s", a, short(k), short(want))
	}
	return k
}

// pump pumps, and tells that the state behind it is right, and that nothing was changed that was handed in.
func pump(t *testing.T, s api.State, pick int, v api.Verdict) (api.State, api.Told) {
	t.Helper()
	before := clone(s)
	k, told, why := saga.Pump(s, pick, v)
	if why != api.OK {
		t.Fatalf("Pump of %d with %d: error %d", pick, v, why)
	}
	if !same(s, before) {
		t.Errorf("Pump of %d with %d has changed what it was handed", pick, v)
	}
	if why := saga.Check(k); why != api.OK {
		t.Fatalf("Pump of %d with %d leaves a state that is not right: %s", pick, v, short(k))
	}
	return k, told
}

// pumps tells what a pump tells, and what is behind it.
func pumps(t *testing.T, s api.State, pick int, v api.Verdict, want api.State, told api.Told) api.State {
	t.Helper()
	k, got := pump(t, s, pick, v)
	if got != told {
		t.Errorf("Pump of %d with %d: %v, and not %v", pick, v, got, told)
	}
	if !same(k, want) {
		t.Errorf("Pump of %d with %d leaves %s, and not %s", pick, v, short(k), short(want))
	}
	return k
}

// Promise 17.1: a state with that Limit and nothing else, or ErrRange.
func TestNew(t *testing.T) {
	for _, limit := range []int{0, 1, 9, api.MaxOrders - 1, api.MaxOrders} {
		s, why := saga.New(limit)
		must(t, why)
		if !same(s, api.State{Limit: limit}) {
			t.Error("New:", short(s))
		}
		must(t, saga.Check(s))
	}
	for _, limit := range []int{-1, math.MinInt, api.MaxOrders + 1, math.MaxInt} {
		if s, why := saga.New(limit); !same(s, api.State{}) || why != api.ErrRange {
			t.Errorf("New of %d: %s, error %d", limit, short(s), why)
		}
	}
}

// Promises 17.1 to 17.4, by the chapter's example: five steps that are accepted.
func TestExample(t *testing.T) {
	s, why := saga.New(9)
	must(t, why)
	s, r := ask(t, s, api.Ask{Kind: api.AskRestock, Lines: []api.Line{line(1, 1, 5, 0)}})
	if r != (api.Reply{}) {
		t.Error("a restock:", r)
	}
	s, r = ask(t, s, api.Ask{Kind: api.AskCheckout, Order: 1, Lines: []api.Line{line(1, 1, 2, 300)}})
	if r != (api.Reply{Status: api.StatusOpen, Amount: 600}) {
		t.Error("a checkout:", r)
	}
	refusedAtThird := s
	steps := []api.StepKind{api.StepReserve, api.StepAuthorise, api.StepBook, api.StepCapture, api.StepSend}
	for i, step := range steps {
		var told api.Told
		if s, told = pump(t, s, i, accept); told != (api.Told{Order: 1, Kind: api.SagaCheckout, Step: step, Over: i == 4}) {
			t.Error("a pump:", told)
		}
	}
	want := api.State{
		Limit:  9,
		Cells:  []api.Cell{cell(1, 1, 3, 0, 2)},
		Books:  api.Books{Pays: []api.Pay{{Order: 1, Captured: 600}}, Postings: posted(1, 600, 2)},
		Ships:  []api.Shipment{{Order: 1, State: api.ShipSent}},
		Orders: []api.Order{order(1, 600, api.StatusFulfilled, line(1, 1, 2, 300))},
	}
	if !same(s, want) {
		t.Error("behind five pumps:", short(s))
	}
	s = refusedAtThird
	steps = []api.StepKind{api.StepReserve, api.StepAuthorise, api.StepBook, api.StepVoid, api.StepRelease}
	for i, step := range steps {
		v, why := accept, api.OK
		if i == 2 {
			v, why = reject, api.ErrConflict
		}
		var told api.Told
		if s, told = pump(t, s, i, v); told != (api.Told{Order: 1, Kind: api.SagaCheckout, Step: step, Why: why, Over: i == 4}) {
			t.Error("a pump:", told)
		}
	}
	void := api.Posting{Order: 1, From: api.AccountHold, To: api.AccountCard, Amount: 600}
	want = api.State{
		Limit:  9,
		Cells:  []api.Cell{cell(1, 1, 5, 0, 0)},
		Books:  api.Books{Postings: append(posted(1, 600, 1), void)},
		Orders: []api.Order{order(1, 600, api.StatusRejected, line(1, 1, 2, 300))},
	}
	if !same(s, want) {
		t.Error("refused at the third one:", short(s))
	}
}

// Promise 17.1: the sum of what all sagas have left.
func TestPending(t *testing.T) {
	for name, x := range map[string]struct {
		s    api.State
		want int
	}{
		"nothing":        {api.State{}, 0},
		"a limit":        {api.State{Limit: 9}, 0},
		"of each":        {all(), 2 + 2 + 2 + 4 + 5},
		"as many as can": {manyOrders(api.MaxOrders), 5 * api.MaxOrders},
	} {
		before := clone(x.s)
		if n, why := saga.Pending(x.s); n != x.want || why != api.OK || !same(x.s, before) {
			t.Errorf("Pending of %s: %d, error %d, and not %d", name, n, why, x.want)
		}
	}
	for k, all := range map[api.SagaKind]int{api.SagaCheckout: 5, api.SagaReturn: 3} {
		for at := range all {
			s := one(api.Saga{Order: 3, Kind: k, At: at})
			if n, why := saga.Pending(s); n != all-at || why != api.OK {
				t.Errorf("Pending of kind %d at %d: %d, error %d", k, at, n, why)
			}
		}
	}
	for _, k := range []api.SagaKind{api.SagaCheckout, api.SagaCancel} {
		for at := 1; at < 5; at++ {
			s := one(api.Saga{Order: 3, Kind: k, At: at, Undoing: true})
			if n, why := saga.Pending(s); n != at || why != api.OK {
				t.Errorf("Pending of kind %d, going back at %d: %d, error %d", k, at, n, why)
			}
		}
	}
}

// statusOf is the status of an order that has a saga of a kind.
func statusOf(k api.SagaKind) api.Status {
	return []api.Status{api.StatusNone, api.StatusOpen, api.StatusCancelling, api.StatusReturning}[k]
}

// one is a state with one order and its saga, and nothing of what that has done.
func one(x api.Saga) api.State {
	return api.State{Limit: 1, Orders: []api.Order{order(x.Order, 60, statusOf(x.Kind), line(1, 1, 2, 20), line(2, 1, 1, 20))}, Sagas: []api.Saga{x}}
}

// manyOrders is a state with the first n orders, all of which are open.
func manyOrders(n int) api.State {
	s := api.State{Limit: n}
	for i := range n {
		s.Orders = append(s.Orders, order(i+1, 60, api.StatusOpen, line(1, 1, 2, 30)))
		s.Sagas = append(s.Sagas, api.Saga{Order: n - i, Kind: api.SagaCheckout})
	}
	return s
}

// marks are n replies that are kept.
func marks(n int) []api.Kept {
	var l []api.Kept
	for i := range n {
		l = append(l, api.Kept{Mark: fmt.Sprintf("m%05d", i), Reply: api.Reply{Amount: int64(i)}})
	}
	return l
}
