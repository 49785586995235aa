package saga_test

import (
	"slices"
	"testing"

	"lading/api"
	"lading/saga"
)

const price = 650

// begun is a state with what was restocked and an order's checkout, by requests.
func begun(t *testing.T, one, two int64) api.State {
	t.Helper()
	s, why := saga.New(3)
	must(t, why)
	s, _ = ask(t, s, api.Ask{Kind: api.AskRestock, Lines: []api.Line{line(1, 1, one, 0), line(2, 1, two, 0)}})
	s, r := ask(t, s, api.Ask{Kind: api.AskCheckout, Order: 2, Lines: []api.Line{line(1, 1, 2, 300), line(2, 1, 1, 50)}})
	if r != (api.Reply{Status: api.StatusOpen, Amount: price}) {
		t.Fatal("a checkout:", r)
	}
	return s
}

// goes pumps the only saga with verdicts, and tells which steps it does.
func goes(t *testing.T, s api.State, verdicts []api.Verdict, steps ...api.StepKind) api.State {
	t.Helper()
	for i, v := range verdicts {
		k, told := pump(t, s, i, v)
		if i >= len(steps) || told.Step != steps[i] {
			t.Fatalf("the step at %d is %d, of %v", i, told.Step, steps)
		}
		s = k
	}
	return s
}

// accepted pumps the only saga as often as is pending, with all accepted, and tells which steps it does.
func accepted(t *testing.T, s api.State, steps ...api.StepKind) api.State {
	t.Helper()
	n, why := saga.Pending(s)
	must(t, why)
	if n != len(steps) {
		t.Fatalf("%d are pending, and not %v", n, steps)
	}
	return goes(t, s, make([]api.Verdict, n), steps...)
}

// ended tells how an order has ended: with no saga, nothing held or open, and what is out, paid, shipped.
func ended(t *testing.T, s api.State, status api.Status, one, two int64, pay api.Pay, at api.ShipState) {
	t.Helper()
	if len(s.Sagas) != 0 || s.Orders[0].Status != status {
		t.Errorf("status %d, sagas %v, and not %d", s.Orders[0].Status, s.Sagas, status)
	}
	cells := []api.Cell{cell(1, 1, one, 0, 0), cell(2, 1, two, 0, 0)}
	if status == api.StatusFulfilled {
		cells = []api.Cell{cell(1, 1, one-2, 0, 2), cell(2, 1, two-1, 0, 1)}
	}
	if !slices.Equal(s.Cells, cells) {
		t.Errorf("cells %v, and not %v", s.Cells, cells)
	}
	var pays []api.Pay
	if pay != (api.Pay{}) {
		pay.Order = 2
		pays = []api.Pay{pay}
	}
	if !slices.Equal(s.Books.Pays, pays) {
		t.Errorf("pays %v, and not %v", s.Books.Pays, pays)
	}
	var ships []api.Shipment
	if at != api.ShipNone {
		ships = []api.Shipment{{Order: 2, State: at}}
	}
	if !slices.Equal(s.Ships, ships) {
		t.Errorf("shipments %v, and not %v", s.Ships, ships)
	}
	if n, why := saga.Pending(s); n != 0 || why != api.OK {
		t.Errorf("%d are pending, error %d", n, why)
	}
}

func forth() []api.StepKind {
	return []api.StepKind{api.StepReserve, api.StepAuthorise, api.StepBook, api.StepCapture, api.StepSend}
}

// backFrom are the steps that undo n of a checkout.
func backFrom(n int) []api.StepKind {
	l := []api.StepKind{api.StepRelease, api.StepVoid, api.StepUnbook, api.StepRefund}[:n]
	slices.Reverse(l)
	return l
}

// undone is how an order of which n steps were done and undone has ended.
func undone(t *testing.T, s api.State, n int, status api.Status) {
	t.Helper()
	pay, at := api.Pay{}, api.ShipNone
	if n >= 4 {
		pay = api.Pay{Captured: price, Refunded: price}
	}
	if n >= 3 {
		at = api.ShipCancelled
	}
	ended(t, s, status, 5, 5, pay, at)
}

// Promises 17.4, 17.6 and 17.7 and rules P7 and P8: a checkout that is accepted all the way, and what it may be returned by then.
func TestFulfilled(t *testing.T) {
	for _, n := range []int64{5, 2} { // more than is asked for, and just that
		s := accepted(t, begun(t, n, n), forth()...)
		ended(t, s, api.StatusFulfilled, n, n, api.Pay{Captured: price}, api.ShipSent)
		s, r := ask(t, s, api.Ask{Kind: api.AskReturn, Order: 2})
		if r != (api.Reply{Status: api.StatusReturning, Amount: price}) {
			t.Fatal("a return:", r)
		}
		back := accepted(t, s, api.StepLabel, api.StepReceive, api.StepRefund)
		ended(t, back, api.StatusReturned, n, n, api.Pay{Captured: price, Refunded: price}, api.ShipBack)
		for _, kind := range []api.AskKind{api.AskReturn, api.AskCancel} {
			if _, r := ask(t, back, api.Ask{Kind: kind, Order: 2}); r != refused(api.ErrState) {
				t.Error("behind a return:", r)
			}
		}
		s = goes(t, s, []api.Verdict{reject}, api.StepLabel)
		ended(t, s, api.StatusFulfilled, n, n, api.Pay{Captured: price}, api.ShipSent)
		s, _ = ask(t, s, api.Ask{Kind: api.AskReturn, Order: 2})
		s = goes(t, s, []api.Verdict{accept, reject, reject, reject}, api.StepLabel, api.StepReceive, api.StepRefund, api.StepRefund)
		s = accepted(t, s, api.StepRefund)
		ended(t, s, api.StatusReturned, n, n, api.Pay{Captured: price, Refunded: price}, api.ShipBack)
	}
}

// Promises 17.4 and 17.6: a checkout for which there are not so many units is over at once, of the first line or of the second one.
func TestNotSoMany(t *testing.T) {
	for _, n := range [][2]int64{{1, 5}, {2, 0}, {1, 0}} {
		s := begun(t, max(n[0], 1), max(n[1], 1))
		if n[1] == 0 {
			s, _ = ask(t, s, api.Ask{Kind: api.AskCheckout, Order: 1, Lines: []api.Line{line(2, 1, 1, 5)}})
			s, _ = pump(t, s, 1, accept)
		}
		cells := slices.Clone(s.Cells)
		k, told := pump(t, s, 0, accept)
		if told != (api.Told{Order: 2, Kind: api.SagaCheckout, Step: api.StepReserve, Why: api.ErrStock, Over: true}) {
			t.Error("a reserve:", told)
		}
		if o := k.Orders[len(k.Orders)-1]; o.Status != api.StatusRejected || !slices.Equal(k.Cells, cells) || len(k.Sagas) != len(s.Sagas)-1 {
			t.Error("behind it:", short(k))
		}
	}
}

// Promises 17.4, 17.6 and 17.7 and rules P7 and P8: a checkout that is rejected at any step, then goes back, rejected there too or not; nothing is held, open or paid then.
func TestRejected(t *testing.T) {
	for at := 1; at < 5; at++ {
		s := goes(t, begun(t, 5, 5), append(make([]api.Verdict, at), reject), forth()[:at+1]...)
		if s.Orders[0].Status != api.StatusOpen {
			t.Error("going back:", s.Orders[0].Status)
		}
		undone(t, accepted(t, s, backFrom(at)...), at, api.StatusRejected)
		for _, step := range backFrom(at) {
			for range 3 {
				told := api.Told{Order: 2, Kind: api.SagaCheckout, Step: step, Why: api.ErrConflict}
				if step != api.StepRelease {
					s = pumps(t, s, 7, reject, s, told)
				}
			}
			s = goes(t, s, []api.Verdict{accept}, step)
		}
		undone(t, s, at, api.StatusRejected)
	}
}

// Promises 17.3, 17.6 and 17.7 and rules P7 and P8: a checkout that is cancelled at any place, going on or going back; nothing is held, open or paid then.
func TestCancelled(t *testing.T) {
	cancel := func(s api.State, status api.Status) api.State {
		s, r := ask(t, s, api.Ask{Kind: api.AskCancel, Order: 2})
		if r != (api.Reply{Status: status, Amount: price}) {
			t.Error("a cancel:", r)
		}
		return s
	}
	undone(t, cancel(begun(t, 5, 5), api.StatusCancelled), 0, api.StatusCancelled)
	for at := 1; at < 5; at++ {
		s := goes(t, begun(t, 5, 5), make([]api.Verdict, at), forth()[:at]...)
		undone(t, accepted(t, cancel(s, api.StatusCancelling), backFrom(at)...), at, api.StatusCancelled)
		s, _ = pump(t, s, 0, reject)
		for left := at; left > 0; left-- {
			undone(t, accepted(t, cancel(s, api.StatusCancelling), backFrom(left)...), at, api.StatusCancelled)
			s, _ = pump(t, s, 0, accept)
		}
		if _, r := ask(t, s, api.Ask{Kind: api.AskCancel, Order: 2}); r != refused(api.ErrState) {
			t.Error("a cancel of what is rejected:", r)
		}
	}
}
