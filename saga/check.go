package saga

import (
	"slices"

	"lading/api"
	"lading/ledger"
	"lading/money"
	"lading/plan"
	"lading/ship"
	"lading/stock"
)

// maxPrice is the most that an order may come to, which is the most that the ledger takes.
const maxPrice = 1 << 60

// Check tells why a state is not right.
func Check(s api.State) api.Errno {
	if !isLimit(s.Limit) || len(s.Orders) > s.Limit {
		return api.ErrState
	}
	if stock.Check(s.Cells) != api.OK || ledger.Check(s.Books) != api.OK || ship.Check(s.Ships) != api.OK {
		return api.ErrState
	}
	if !areOrders(s.Orders) || !areSagas(s.Orders, s.Sagas) || !areKept(s.Kept) {
		return api.ErrState
	}
	return api.OK
}

func areOrders(l []api.Order) bool {
	last := 0
	for _, o := range l {
		rises := o.Id > last
		price, why := priceOf(o.Lines)
		if !rises || !isOrder(o.Id) || why != api.OK || price != o.Price || o.Status == api.StatusNone || !isStatus(o.Status) {
			return false
		}
		last = o.Id
	}
	return true
}

// areSagas tells whether just the orders that are under way have a saga, each one and of its kind. A saga that was found is no more wanted, so that a second one is one too many.
func areSagas(orders []api.Order, sagas []api.Saga) bool {
	wanted := make(map[int]api.SagaKind)
	for _, o := range orders {
		if kind := kindOf(o.Status); kind != api.SagaNone {
			wanted[o.Id] = kind
		}
	}
	for _, x := range sagas {
		if isOver(x) || wanted[x.Order] != x.Kind {
			return false
		}
		delete(wanted, x.Order)
	}
	return len(wanted) == 0
}

// kindOf is the kind of the saga that an order of a status has; SagaNone, if it has none.
func kindOf(s api.Status) api.SagaKind {
	switch s {
	case api.StatusOpen:
		return api.SagaCheckout
	case api.StatusCancelling:
		return api.SagaCancel
	case api.StatusReturning:
		return api.SagaReturn
	}
	return api.SagaNone
}

// isOver tells whether a saga has no step any more, as one that is not right has none.
func isOver(x api.Saga) bool {
	_, goesOn, _ := plan.Next(x)
	return !goesOn
}

func areKept(l []api.Kept) bool {
	if len(l) > api.MaxList {
		return false
	}
	last := ""
	for _, k := range l {
		rises := k.Mark > last // which the empty one never does
		if !rises || len(k.Mark) > api.MaxMark || !isReply(k.Reply) {
			return false
		}
		last = k.Mark
	}
	return true
}

func isReply(r api.Reply) bool {
	return r.Why >= api.OK && r.Why <= api.ErrType && isStatus(r.Status) && r.Amount >= 0
}

// priceOf is what the lines of an order come to, or why they may not be.
func priceOf(l []api.Line) (int64, api.Errno) {
	if len(l) == 0 || slices.ContainsFunc(l, isNowhere) {
		return 0, api.ErrRange
	}
	price, why := money.Total(l)
	switch {
	case why != api.OK:
		return 0, why
	case price < 1:
		return 0, api.ErrRange
	case price > maxPrice:
		return 0, api.ErrOver
	}
	return price, api.OK
}

// isNowhere tells whether a line is of no item, or from no warehouse.
func isNowhere(x api.Line) bool {
	return x.Item < 1 || x.Item > api.MaxItems || x.Ware < 1 || x.Ware > api.MaxItems
}

func isLimit(n int) bool { return n >= 0 && n <= api.MaxOrders }

func isOrder(n int) bool { return n >= 1 && n <= api.MaxOrders }

// isStatus tells whether s is a status, StatusNone among them.
func isStatus(s api.Status) bool { return s < api.StatusCount }
