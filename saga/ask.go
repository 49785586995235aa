package saga

import (
	"slices"
	"strings"

	"lading/api"
	"lading/stock"
)

// request does what is asked.
type request func(api.Ask) api.Reply

// Ask does a request, or answers once more what was answered to its mark.
func Ask(s api.State, a api.Ask) (api.State, api.Reply, api.Errno) {
	v, why := open(s)
	if why != api.OK {
		return api.State{}, api.Reply{}, why
	}
	reply := v.ask(a)
	return v.State, reply, api.OK
}

func (v *service) ask(a api.Ask) api.Reply {
	do, is := v.requests()[a.Kind]
	if !is {
		return refusal(api.ErrType)
	}
	if len(a.Mark) > api.MaxMark {
		return refusal(api.ErrLong)
	}
	if a.Mark == "" {
		return do(a)
	}
	return v.once(a, do)
}

// once does a request that has a mark, if nothing is kept of that, and keeps the reply.
func (v *service) once(a api.Ask, do request) api.Reply {
	at, is := slices.BinarySearchFunc(v.Kept, a.Mark, func(k api.Kept, mark string) int { return strings.Compare(k.Mark, mark) })
	if is {
		return v.Kept[at].Reply
	}
	if len(v.Kept) == api.MaxList {
		return refusal(api.ErrFull)
	}
	reply := do(a)
	v.Kept = slices.Insert(v.Kept, at, api.Kept{Mark: a.Mark, Reply: reply})
	return reply
}

// requests are what does each kind; none of them changes anything, if it is refused.
func (v *service) requests() map[api.AskKind]request {
	return map[api.AskKind]request{
		api.AskCheckout: v.checkout,
		api.AskCancel:   v.cancel,
		api.AskReturn:   v.takeBack,
		api.AskRestock:  v.restock,
		api.AskStatus:   v.status,
		api.AskFree:     v.free,
	}
}

// checkout takes an order.
func (v *service) checkout(a api.Ask) api.Reply {
	if !isOrder(a.Order) {
		return refusal(api.ErrRange)
	}
	price, why := priceOf(a.Lines)
	if why != api.OK {
		return refusal(why)
	}
	at, is := v.find(a.Order)
	if is {
		return refusal(api.ErrTwice)
	}
	if len(v.Orders) == v.Limit {
		return refusal(api.ErrFull)
	}
	o := api.Order{Id: a.Order, Lines: slices.Clone(a.Lines), Price: price, Status: api.StatusOpen}
	v.Orders = slices.Insert(v.Orders, at, o)
	v.Sagas = append(v.Sagas, api.Saga{Order: a.Order, Kind: api.SagaCheckout})
	return standOf(o)
}

// cancel turns the checkout of an order round, wherever that is.
func (v *service) cancel(a api.Ask) api.Reply {
	o, why := v.inStatus(a.Order, api.StatusOpen)
	if why != api.OK {
		return refusal(why)
	}
	o.Status = api.StatusCancelling
	place := slices.IndexFunc(v.Sagas, func(x api.Saga) bool { return x.Order == a.Order })
	v.Sagas[place].Kind = api.SagaCancel
	v.Sagas[place].Undoing = true
	v.settle(place)
	return standOf(*o)
}

// takeBack begins the return of an order.
func (v *service) takeBack(a api.Ask) api.Reply {
	o, why := v.inStatus(a.Order, api.StatusFulfilled)
	if why != api.OK {
		return refusal(why)
	}
	o.Status = api.StatusReturning
	v.Sagas = append(v.Sagas, api.Saga{Order: a.Order, Kind: api.SagaReturn})
	return standOf(*o)
}

// inStatus is an order that is to be changed, which must have a status.
func (v *service) inStatus(order int, s api.Status) (*api.Order, api.Errno) {
	at, is := v.find(order)
	if !is {
		return nil, api.ErrUnknown
	}
	if v.Orders[at].Status != s {
		return nil, api.ErrState
	}
	return &v.Orders[at], api.OK
}

func (v *service) restock(a api.Ask) api.Reply {
	if len(a.Lines) == 0 || slices.ContainsFunc(a.Lines, hasPrice) {
		return refusal(api.ErrRange)
	}
	if len(a.Lines) > api.MaxLines {
		return refusal(api.ErrMany)
	}
	cells, why := stock.Lines(v.Cells, a.Lines, stock.Restock)
	if why != api.OK {
		return refusal(why)
	}
	v.Cells = cells
	return api.Reply{}
}

func hasPrice(x api.Line) bool { return x.Unit != 0 }

func (v *service) status(a api.Ask) api.Reply {
	at, is := v.find(a.Order)
	if !is {
		return refusal(api.ErrUnknown)
	}
	return standOf(v.Orders[at])
}

func (v *service) free(a api.Ask) api.Reply {
	if len(a.Lines) != 1 {
		return refusal(api.ErrRange)
	}
	cell, why := stock.Cell(v.Cells, a.Lines[0].Item, a.Lines[0].Ware)
	if why != api.OK {
		return refusal(why)
	}
	return api.Reply{Amount: cell.Free}
}

// refusal is the reply of what is not done.
func refusal(why api.Errno) api.Reply { return api.Reply{Why: why} }

// standOf is the reply that tells how far an order is.
func standOf(o api.Order) api.Reply { return api.Reply{Status: o.Status, Amount: o.Price} }
