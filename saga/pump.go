package saga

import (
	"lading/api"
	"lading/ledger"
	"lading/plan"
	"lading/ship"
	"lading/stock"
)

// task is something that a step does.
type task func() api.Errno

// Pump has the saga that pick picks do its next step.
func Pump(s api.State, pick int, v api.Verdict) (api.State, api.Told, api.Errno) {
	x, why := open(s)
	if why != api.OK {
		return api.State{}, api.Told{}, why
	}
	if v >= api.VerdictCount {
		return api.State{}, api.Told{}, api.ErrType
	}
	if len(x.Sagas) == 0 {
		return api.State{}, api.Told{}, api.ErrUnknown
	}
	told := x.pump(place(pick, len(x.Sagas)), v)
	return x.State, told, api.OK
}

// place is pick modulo n, from 0 on.
func place(pick, n int) int { return (pick%n + n) % n }

func (v *service) pump(place int, verdict api.Verdict) api.Told {
	x := v.Sagas[place]
	step, _, _ := plan.Next(x)
	told := api.Told{Order: x.Order, Kind: x.Kind, Step: step}
	told.Why = v.step(step, x.Order, verdict)
	v.Sagas[place], _ = plan.Advance(x, told.Why == api.OK)
	told.Over = v.settle(place)
	return told
}

// step does all tasks of a step, or nothing. The tasks change a draft, whose lists they put others in the place of; so the service has what it had, if the draft is dropped.
func (v *service) step(step api.StepKind, order int, verdict api.Verdict) api.Errno {
	if plan.Asks(step) && verdict == api.VerdictReject {
		return api.ErrConflict
	}
	draft := *v
	for _, do := range draft.tasks(order)[step] {
		if why := do(); why != api.OK {
			return why
		}
	}
	*v = draft
	return api.OK
}

// tasks are what each step does for an order.
func (v *service) tasks(order int) map[api.StepKind][]task {
	at, _ := v.find(order)
	o := v.Orders[at]
	units := func(move func([]api.Cell, int, int, int64) ([]api.Cell, api.Errno)) task {
		return func() (why api.Errno) {
			v.Cells, why = stock.Lines(v.Cells, o.Lines, move)
			return why
		}
	}
	carry := func(m api.ShipMove) task {
		return func() (why api.Errno) {
			v.Ships, why = ship.Move(v.Ships, order, m, api.VerdictAccept)
			return why
		}
	}
	pay := func(post func(api.Books, api.Order) (api.Books, api.Errno)) task {
		return func() (why api.Errno) {
			v.Books, why = post(v.Books, o)
			return why
		}
	}
	return map[api.StepKind][]task{
		api.StepReserve:   {units(stock.Reserve)},
		api.StepRelease:   {units(stock.Release)},
		api.StepAuthorise: {pay(authorise)},
		api.StepVoid:      {pay(void)},
		api.StepBook:      {carry(api.MoveBook)},
		api.StepUnbook:    {carry(api.MoveCancel)},
		api.StepCapture:   {pay(capture)},
		api.StepRefund:    {pay(refund)},
		api.StepSend:      {carry(api.MoveSend), units(stock.Send)},
		api.StepLabel:     {carry(api.MoveLabel)},
		api.StepReceive:   {carry(api.MoveReceive), units(stock.TakeBack)},
	}
}

func authorise(b api.Books, o api.Order) (api.Books, api.Errno) {
	return ledger.Authorise(b, o.Id, o.Price)
}

func capture(b api.Books, o api.Order) (api.Books, api.Errno) {
	books, _, why := ledger.Capture(b, o.Id)
	return books, why
}

// void gives back what is open. Nothing is, where what was captured has been given back ahead of it.
func void(b api.Books, o api.Order) (api.Books, api.Errno) {
	if pay, _ := ledger.Pay(b, o.Id); pay.Open == 0 {
		return b, api.OK
	}
	books, _, why := ledger.Void(b, o.Id)
	return books, why
}

// refund gives back all that was taken and is not yet given back.
func refund(b api.Books, o api.Order) (api.Books, api.Errno) {
	pay, _ := ledger.Pay(b, o.Id)
	return ledger.Refund(b, o.Id, pay.Captured-pay.Refunded)
}
