package saga

import (
	"cmp"
	"slices"

	"lading/api"
)

// service is a state that is about to be changed, embedded: it is the service's own, in all its lists.
type service struct{ api.State }

// open is the service of a right state.
func open(s api.State) (*service, api.Errno) {
	if why := Check(s); why != api.OK {
		return nil, why
	}
	v := &service{State: s}
	v.Cells = slices.Clone(s.Cells)
	v.Books.Pays = slices.Clone(s.Books.Pays)
	v.Books.Postings = slices.Clone(s.Books.Postings)
	v.Ships = slices.Clone(s.Ships)
	v.Orders = slices.Clone(s.Orders)
	for i, o := range v.Orders {
		v.Orders[i].Lines = slices.Clone(o.Lines)
	}
	v.Sagas = slices.Clone(s.Sagas)
	v.Kept = slices.Clone(s.Kept)
	return v, api.OK
}

// find is the place of an order, or at which place it would be, and whether it is there.
func (v *service) find(order int) (int, bool) {
	return slices.BinarySearchFunc(v.Orders, order, func(o api.Order, order int) int { return cmp.Compare(o.Id, order) })
}

// settle takes the saga at a place away, if it is over, and has its order be what that makes of it; it tells whether it was over.
func (v *service) settle(place int) bool {
	x := v.Sagas[place]
	if !isOver(x) {
		return false
	}
	at, _ := v.find(x.Order)
	v.Orders[at].Status = end(x)
	v.Sagas = slices.Delete(v.Sagas, place, place+1)
	return true
}

// end is what a saga that is over makes of its order.
func end(x api.Saga) api.Status {
	switch {
	case x.Kind == api.SagaCancel:
		return api.StatusCancelled
	case x.Kind == api.SagaReturn && !x.Undoing:
		return api.StatusReturned
	case x.Kind == api.SagaCheckout && x.Undoing:
		return api.StatusRejected
	}
	return api.StatusFulfilled // by a checkout, or still, by a return that was turned back
}
