package ledger

import (
	"cmp"
	"slices"

	"lading/api"
)

// change is books that are about to be changed for an order: they are embedded as they were, with the order's pay, which stands, or would stand, from a place up to another one.
type change struct {
	api.Books
	pay      api.Pay
	from, to int
}

// begin is the change of right books for an order, with nothing changed yet.
func begin(b api.Books, order int) (change, api.Errno) {
	if why := Check(b); why != api.OK {
		return change{}, why
	}
	if !isOrder(order) {
		return change{}, api.ErrRange
	}
	c := change{Books: b, pay: api.Pay{Order: order}}
	at, is := slices.BinarySearchFunc(c.Pays, order, func(p api.Pay, order int) int { return cmp.Compare(p.Order, order) })
	c.from, c.to = at, at
	if is {
		c.pay, c.to = c.Pays[at], at+1
	}
	return c, api.OK
}

// post are the books with a posting more, and the order's pay as that leaves it.
func (c change) post(from, to api.Account, amount int64) (api.Books, api.Errno) {
	if len(c.Postings) >= api.MaxEvents {
		return api.Books{}, api.ErrMany
	}
	posting := api.Posting{Order: c.pay.Order, From: from, To: to, Amount: amount}
	pay := behind(c.pay, posting)
	if isBeyond(pay) {
		return api.Books{}, api.ErrOver
	}
	return api.Books{Pays: c.paysWith(pay), Postings: slices.Concat(c.Postings, []api.Posting{posting})}, api.OK
}

// paysWith are the pays with another one of the order; without one, if it is nothing.
func (c change) paysWith(pay api.Pay) []api.Pay {
	if isNothing(pay) {
		return slices.Concat(c.Pays[:c.from], c.Pays[c.to:])
	}
	return slices.Concat(c.Pays[:c.from], []api.Pay{pay}, c.Pays[c.to:])
}
