package saga_test

import (
	"math"
	"slices"
	"testing"

	"lading/api"
	"lading/saga"
)

// under is what there is of an order whose saga does a step: units, money, its shipment.
type under struct {
	cells []api.Cell
	books api.Books
	ship  api.ShipState
}

// in is a state of one order, whose saga is x, with that.
func (u under) in(x api.Saga) api.State {
	s := one(x)
	s.Cells, s.Books = u.cells, u.books
	if u.ship != api.ShipNone {
		s.Ships = []api.Shipment{{Order: x.Order, State: u.ship}}
	}
	return s
}

// free, held and out are units of the order's two lines, n times what it has.
func free(n int64) []api.Cell { return []api.Cell{cell(1, 1, 2*n, 0, 0), cell(2, 1, n, 0, 0)} }
func held(n int64) []api.Cell { return []api.Cell{cell(1, 1, 0, 2*n, 0), cell(2, 1, 0, n, 0)} }
func out(n int64) []api.Cell  { return []api.Cell{cell(1, 1, 0, 0, 2*n), cell(2, 1, 0, 0, n)} }

// paid are books of the order with n of its postings: authorised, captured, refunded.
func paid(n int) api.Books {
	pay := []api.Pay{{}, {Order: 3, Open: 60}, {Order: 3, Captured: 60}, {Order: 3, Captured: 60, Refunded: 60}}[n]
	return api.Books{Pays: []api.Pay{pay}, Postings: posted(3, 60, n)}
}

// busy are books with as many postings as may be behind others.
func busy(b api.Books) api.Books {
	b = api.Books{Pays: slices.Clone(b.Pays), Postings: slices.Clone(b.Postings)}
	void := api.Posting{Order: 9, From: api.AccountHold, To: api.AccountCard, Amount: 5}
	for len(b.Postings) < api.MaxEvents-1 {
		b.Postings = append(b.Postings, posted(9, 5, 1)[0], void)
	}
	if len(b.Postings) < api.MaxEvents { // one is left, which nothing voids
		b.Postings = append(b.Postings, posted(9, 5, 1)[0])
		b.Pays = append(b.Pays, api.Pay{Order: 9, Open: 5})
	}
	return b
}

type doing struct {
	name string
	saga api.Saga
	has  under
	step api.StepKind
	why  api.Errno
	then under      // what there is behind it, if it is done
	end  api.Status // of the order, if the saga is over behind it
}

// doings are every step, done and refused by what there is. Those of a checkout that goes back are those of a cancel too.
func doings() []doing {
	on := func(at int) api.Saga { return api.Saga{Order: 3, Kind: api.SagaCheckout, At: at} }
	back := func(at int) api.Saga { return api.Saga{Order: 3, Kind: api.SagaCheckout, At: at, Undoing: true} }
	home := func(at int) api.Saga { return api.Saga{Order: 3, Kind: api.SagaReturn, At: at} }
	part := api.Books{Pays: []api.Pay{{Order: 3, Captured: 60, Refunded: 20}}, Postings: append(posted(3, 60, 2), api.Posting{Order: 3, From: api.AccountSales, To: api.AccountCard, Amount: 20})}
	rest := api.Books{Pays: []api.Pay{{Order: 3, Captured: 60, Refunded: 60}}, Postings: append(slices.Clone(part.Postings), api.Posting{Order: 3, From: api.AccountSales, To: api.AccountCard, Amount: 40})}
	voided := api.Books{Postings: append(posted(3, 60, 1), api.Posting{Order: 3, From: api.AccountHold, To: api.AccountCard, Amount: 60})}
	more := api.Books{Pays: []api.Pay{{Order: 3, Open: 7}}, Postings: posted(3, 7, 1)}
	most := api.Books{Pays: []api.Pay{{Order: 3, Open: 1, Captured: 1 << 60}}, Postings: append(posted(3, 1<<60, 2), posted(3, 1, 1)...)}
	none := under{}
	return []doing{
		{"reserve", on(0), under{cells: free(5)}, api.StepReserve, api.OK, under{cells: []api.Cell{cell(1, 1, 8, 2, 0), cell(2, 1, 4, 1, 0)}}, 0},
		{"reserve just what there is", on(0), under{cells: free(1)}, api.StepReserve, api.OK, under{cells: held(1)}, 0},
		{"reserve of none", on(0), none, api.StepReserve, api.ErrStock, none, api.StatusRejected},
		{"reserve of too few", on(0), under{cells: []api.Cell{cell(1, 1, 1, 9, 9), cell(2, 1, 9, 0, 0)}}, api.StepReserve, api.ErrStock, none, api.StatusRejected},
		{"reserve of a second line of too few", on(0), under{cells: []api.Cell{cell(1, 1, 9, 0, 0), cell(2, 1, 0, 9, 9)}}, api.StepReserve, api.ErrStock, none, api.StatusRejected},
		{"authorise", on(1), under{cells: held(1)}, api.StepAuthorise, api.OK, under{cells: held(1), books: paid(1)}, 0},
		{"authorise what is open", on(1), under{books: more}, api.StepAuthorise, api.ErrState, none, 0},
		{"authorise behind too many", on(1), under{books: busy(api.Books{})}, api.StepAuthorise, api.ErrMany, none, 0},
		{"book", on(2), none, api.StepBook, api.OK, under{ship: api.ShipBooked}, 0},
		{"book what is booked", on(2), under{ship: api.ShipBooked}, api.StepBook, api.ErrState, none, 0},
		{"book what was cancelled", on(2), under{ship: api.ShipCancelled}, api.StepBook, api.ErrState, none, 0},
		{"capture", on(3), under{books: paid(1)}, api.StepCapture, api.OK, under{books: paid(2)}, 0},
		{"capture another amount", on(3), under{books: more}, api.StepCapture, api.OK, under{books: api.Books{Pays: []api.Pay{{Order: 3, Captured: 7}}, Postings: posted(3, 7, 2)}}, 0},
		{"capture nothing", on(3), none, api.StepCapture, api.ErrState, none, 0},
		{"capture what was captured", on(3), under{books: paid(2)}, api.StepCapture, api.ErrState, none, 0},
		{"capture too much", on(3), under{books: most}, api.StepCapture, api.ErrOver, none, 0},
		{"capture behind too many", on(3), under{books: busy(paid(1))}, api.StepCapture, api.ErrMany, none, 0},
		{"send", on(4), under{cells: held(1), ship: api.ShipBooked}, api.StepSend, api.OK, under{cells: out(1), ship: api.ShipSent}, api.StatusFulfilled},
		{"send what is not booked", on(4), under{cells: held(1)}, api.StepSend, api.ErrState, none, 0},
		{"send what is neither booked nor held", on(4), under{cells: free(9)}, api.StepSend, api.ErrState, none, 0},
		{"send what is not held", on(4), under{cells: free(9), ship: api.ShipBooked}, api.StepSend, api.ErrStock, none, 0},
		{"send what is not held of a second line", on(4), under{cells: []api.Cell{cell(1, 1, 0, 2, 0), cell(2, 1, 5, 0, 0)}, ship: api.ShipBooked}, api.StepSend, api.ErrStock, none, 0},
		{"refund, going back", back(4), under{books: paid(2)}, api.StepRefund, api.OK, under{books: paid(3)}, 0},
		{"refund nothing, going back", back(4), none, api.StepRefund, api.ErrRange, none, 0},
		{"unbook", back(3), under{ship: api.ShipBooked}, api.StepUnbook, api.OK, under{ship: api.ShipCancelled}, 0},
		{"unbook what is not booked", back(3), none, api.StepUnbook, api.ErrState, none, 0},
		{"unbook what was sent", back(3), under{ship: api.ShipSent}, api.StepUnbook, api.ErrState, none, 0},
		{"void", back(2), under{books: paid(1)}, api.StepVoid, api.OK, under{books: voided}, 0},
		{"void nothing", back(2), none, api.StepVoid, api.OK, none, 0},
		{"void what was given back", back(2), under{books: paid(3)}, api.StepVoid, api.OK, under{books: paid(3)}, 0},
		{"void what is captured", back(2), under{books: paid(2)}, api.StepVoid, api.OK, under{books: paid(2)}, 0},
		{"void behind too many", back(2), under{books: busy(paid(1))}, api.StepVoid, api.ErrMany, none, 0},
		{"void nothing behind too many", back(2), under{books: busy(paid(2))}, api.StepVoid, api.OK, under{books: busy(paid(2))}, 0},
		{"release", back(1), under{cells: held(4)}, api.StepRelease, api.OK, under{cells: []api.Cell{cell(1, 1, 2, 6, 0), cell(2, 1, 1, 3, 0)}}, api.StatusRejected},
		{"release what is not held", back(1), under{cells: free(4)}, api.StepRelease, api.ErrStock, none, 0},
		{"release what is not held of a second line", back(1), under{cells: []api.Cell{cell(1, 1, 0, 2, 0)}}, api.StepRelease, api.ErrStock, none, 0},
		{"label what was sent", home(0), under{ship: api.ShipSent}, api.StepLabel, api.OK, under{ship: api.ShipLabelled}, 0},
		{"label what is there", home(0), under{ship: api.ShipThere}, api.StepLabel, api.OK, under{ship: api.ShipLabelled}, 0},
		{"label what is not sent", home(0), under{ship: api.ShipBooked}, api.StepLabel, api.ErrState, none, api.StatusFulfilled},
		{"label none", home(0), none, api.StepLabel, api.ErrState, none, api.StatusFulfilled},
		{"receive", home(1), under{cells: out(1), ship: api.ShipLabelled}, api.StepReceive, api.OK, under{cells: free(1), ship: api.ShipBack}, 0},
		{"receive what has no label", home(1), under{cells: out(1), ship: api.ShipSent}, api.StepReceive, api.ErrState, none, 0},
		{"receive what has no label and is not out", home(1), none, api.StepReceive, api.ErrState, none, 0},
		{"receive what is not out", home(1), under{cells: held(1), ship: api.ShipLabelled}, api.StepReceive, api.ErrStock, none, 0},
		{"receive what is not out of a second line", home(1), under{cells: []api.Cell{cell(1, 1, 0, 0, 2), cell(2, 1, 1, 1, 0)}, ship: api.ShipLabelled}, api.StepReceive, api.ErrStock, none, 0},
		{"refund", home(2), under{books: paid(2)}, api.StepRefund, api.OK, under{books: paid(3)}, api.StatusReturned},
		{"refund the rest", home(2), under{books: part}, api.StepRefund, api.OK, under{books: rest}, api.StatusReturned},
		{"refund nothing", home(2), none, api.StepRefund, api.ErrRange, none, 0},
		{"refund what was refunded", home(2), under{books: paid(3)}, api.StepRefund, api.ErrRange, none, 0},
		{"refund behind too many", home(2), under{books: busy(paid(2))}, api.StepRefund, api.ErrMany, none, 0},
	}
}

// turned is what becomes of a saga, done or not, if it is not over then.
func turned(x api.Saga, step api.StepKind, done bool) api.Saga {
	switch {
	case done && x.Undoing:
		x.At--
	case done:
		x.At++
	case !slices.Contains([]api.StepKind{api.StepReceive, api.StepRefund}, step):
		x.Undoing = true
	}
	return x
}

// does tells what a doing comes to, with a verdict.
func (d doing) does(t *testing.T, v api.Verdict) {
	t.Helper()
	before := d.has.in(d.saga)
	told := api.Told{Order: 3, Kind: d.saga.Kind, Step: d.step, Why: d.why, Over: d.end != 0}
	then := d.then
	if v == reject && slices.Contains(asked(), d.step) {
		told.Why = api.ErrConflict
		told.Over = d.step == api.StepLabel
		d.end = api.StatusFulfilled
	}
	if told.Why != api.OK {
		then = d.has
	}
	want := then.in(turned(d.saga, d.step, told.Why == api.OK))
	if told.Over {
		want.Sagas, want.Orders[0].Status = nil, d.end
	}
	pumps(t, before, 0, v, want, told)
}

// Promise 17.4: every step of every kind of saga, accepted and rejected, with what there is to do it and without: what is told, what is done, and what becomes of the saga and of its order.
func TestSteps(t *testing.T) {
	seen := map[api.StepKind]int{}
	for _, d := range doings() {
		t.Run(d.name, func(t *testing.T) {
			d.does(t, accept)
			d.does(t, reject)
			if d.saga.Kind == api.SagaCheckout && d.saga.Undoing {
				d.saga.Kind = api.SagaCancel
				if d.end != 0 {
					d.end = api.StatusCancelled
				}
				d.does(t, accept)
				d.does(t, reject)
			}
		})
		seen[d.step]++
	}
	for step := api.StepReserve; step < api.StepCount; step++ {
		if seen[step] < 2 {
			t.Errorf("step %d is tried %d times", step, seen[step])
		}
	}
}

// Promise 17.4: the saga that is picked, of picks below 0, above and at the ends; the others stay as they are, and in their order.
func TestPicks(t *testing.T) {
	orders := []int{2, 9, 7, 5, 1}
	for pick, at := range map[int]int{0: 0, 1: 1, 2: 2, 3: 3, 4: 4, 5: 0, 6: 1, 9: 4, 10: 0, 5000003: 3, -1: 4, -2: 3, -3: 2, -4: 1, -5: 0, -6: 4, -10: 0, math.MaxInt: 2, math.MaxInt - 1: 1, math.MinInt: 2, math.MinInt + 1: 3} {
		for _, v := range []api.Verdict{accept, reject} {
			k, told := pump(t, all(), pick, v)
			if told.Order != orders[at] {
				t.Errorf("Pump of %d: order %d, and not %d", pick, told.Order, orders[at])
			}
			left := slices.DeleteFunc(k.Sagas, func(x api.Saga) bool { return x.Order == orders[at] })
			want := slices.Delete(all().Sagas, at, at+1)
			if !slices.Equal(left, want) {
				t.Errorf("Pump of %d: sagas %v, and not %v", pick, left, want)
			}
		}
	}
	for _, n := range []int{1, 2, 3, 7} {
		for pick := -3 * n; pick <= 3*n; pick++ {
			if _, told := pump(t, manyOrders(n), pick, accept); told.Order != n-(pick+3*n)%n {
				t.Errorf("Pump of %d of %d: order %d", pick, n, told.Order)
			}
		}
	}
}

// Promise 17.4 and rules P2 and P3: a verdict that is none is ErrType; without a saga ErrUnknown; in this order, with nothing beside it.
func TestPumpIsRefused(t *testing.T) {
	for _, v := range every[api.Verdict]() {
		for _, s := range []api.State{all(), {}, {Limit: 9}} {
			why := api.ErrType
			if v == accept || v == reject {
				if why = api.ErrUnknown; len(s.Sagas) > 0 {
					continue
				}
			}
			for _, pick := range []int{0, 1, -1, math.MinInt, math.MaxInt} {
				before := clone(s)
				if k, told, got := saga.Pump(s, pick, v); !same(k, api.State{}) || told != (api.Told{}) || got != why || !same(s, before) {
					t.Errorf("Pump with %d: %v, error %d, and not %d", v, told, got, why)
				}
			}
		}
	}
}

// Promise 17.4: pumps of right states, at their ends too, are what the plain shop does.
func TestPumpOfRightStates(t *testing.T) {
	for name, s := range rights() {
		picks := []int{0, 1, 2, 3, 4, -1, -7, math.MinInt}
		if isBig(s) {
			picks = []int{0, 777, math.MaxInt}
		}
		for _, pick := range picks {
			for _, v := range []api.Verdict{accept, reject} {
				if len(s.Sagas) == 0 {
					continue
				}
				want := shopOf(s)
				told := want.pump(pick, v)
				if k, got := pump(t, s, pick, v); got != told || !same(k, want.state()) {
					t.Fatalf("Pump of %s by %d with %d: %v, and not %v", name, pick, v, got, told)
				}
			}
		}
	}
}
