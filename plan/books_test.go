package plan_test

import (
	"slices"
	"testing"

	"lading/api"
	"lading/ledger"
	"lading/plan"
	"lading/ship"
	"lading/stock"
)

// store is what the steps of one order's sagas change: units, money, the shipment.
type store struct {
	cells []api.Cell
	books api.Books
	ships []api.Shipment
}

const order, price = 8, 600

// units does a move of the order's units.
func (x *store) units(t *testing.T, move func([]api.Cell, int, int, int64) ([]api.Cell, api.Errno)) {
	t.Helper()
	cells, why := move(x.cells, 1, 1, 2)
	must(t, why)
	x.cells = cells
}

// carry does a move of the order's shipment.
func (x *store) carry(t *testing.T, m api.ShipMove) {
	t.Helper()
	ships, why := ship.Move(x.ships, order, m, api.VerdictAccept)
	must(t, why)
	x.ships = ships
}

// pay has the books be what a call of theirs answered.
func (x *store) pay(t *testing.T, b api.Books, why api.Errno) {
	t.Helper()
	must(t, why)
	x.books = b
}

func (x *store) do(t *testing.T, step api.StepKind) {
	t.Helper()
	switch step {
	case api.StepReserve:
		x.units(t, stock.Reserve)
	case api.StepRelease:
		x.units(t, stock.Release)
	case api.StepAuthorise:
		b, why := ledger.Authorise(x.books, order, price)
		x.pay(t, b, why)
	case api.StepVoid:
		if p, _ := ledger.Pay(x.books, order); p.Open != 0 {
			b, _, why := ledger.Void(x.books, order)
			x.pay(t, b, why)
		}
	case api.StepCapture:
		b, _, why := ledger.Capture(x.books, order)
		x.pay(t, b, why)
	case api.StepRefund:
		b, why := ledger.Refund(x.books, order, price)
		x.pay(t, b, why)
	case api.StepBook:
		x.carry(t, api.MoveBook)
	case api.StepUnbook:
		x.carry(t, api.MoveCancel)
	case api.StepLabel:
		x.carry(t, api.MoveLabel)
	case api.StepSend:
		x.carry(t, api.MoveSend)
		x.units(t, stock.Send)
	case api.StepReceive:
		x.carry(t, api.MoveReceive)
		x.units(t, stock.TakeBack)
	default:
		t.Fatal("no step:", step)
	}
}

// finish does all the steps that a saga has left.
func (x *store) finish(t *testing.T, s api.Saga) {
	t.Helper()
	_, steps := toEnd(t, s)
	for _, step := range steps {
		x.do(t, step)
	}
}

// full is a store of five units.
func full(t *testing.T) *store {
	cells, why := stock.Restock(nil, 1, 1, 5)
	must(t, why)
	return &store{cells: cells}
}

// is tells what a store has come to: units that are out, money that was taken and not given back; nothing is held or open.
func (x *store) is(t *testing.T, out, paid int64, at api.ShipState) {
	t.Helper()
	if want := (api.Cell{Item: 1, Ware: 1, Free: 5 - out, Out: out, All: 5}); !slices.Equal(x.cells, []api.Cell{want}) {
		t.Errorf("cells: %v, and not %v", x.cells, want)
	}
	must(t, ledger.Check(x.books))
	if p, why := ledger.Pay(x.books, order); p.Open != 0 || p.Captured-p.Refunded != paid || why != api.OK {
		t.Errorf("paid: %v, error %d, and not %d", p, why, paid)
	}
	if s, why := ship.Of(x.ships, order); s != at || why != api.OK {
		t.Errorf("the shipment: %d, error %d, and not %d", s, why, at)
	}
}

// Rule P7, promise 16.6: what the steps do can be done, and comes to books that are right: of a checkout that is done, refused or cancelled at any place, and of a return.
func TestBooks(t *testing.T) {
	checkout := api.Saga{Order: order, Kind: api.SagaCheckout}
	x := full(t)
	x.finish(t, checkout)
	x.is(t, 2, price, api.ShipSent)
	x.finish(t, api.Saga{Order: order, Kind: api.SagaReturn, Undoing: true})
	x.is(t, 2, price, api.ShipSent)
	x.finish(t, api.Saga{Order: order, Kind: api.SagaReturn})
	x.is(t, 0, 0, api.ShipBack)
	for at := range 5 {
		for _, k := range []api.SagaKind{api.SagaCheckout, api.SagaCancel} {
			x := full(t)
			for _, step := range plan.Steps(api.SagaCheckout)[:at] {
				x.do(t, step)
			}
			x.finish(t, api.Saga{Order: order, Kind: k, At: at, Undoing: true})
			end := api.ShipNone
			if at > 2 {
				end = api.ShipCancelled
			}
			x.is(t, 0, 0, end)
		}
	}
}
