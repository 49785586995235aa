package ledger_test

import (
	"fmt"
	"math"
	"slices"
	"testing"

	"lading/api"
	"lading/ledger"
)

// most is the greatest amount that may be.
const most = 1 << 60

const (
	card  = api.AccountCard
	hold  = api.AccountHold
	sales = api.AccountSales
)

func must(t *testing.T, why api.Errno) {
	t.Helper()
	if why != api.OK {
		t.Fatal("error", why)
	}
}

func posting(order int, from, to api.Account, amount int64) api.Posting {
	return api.Posting{Order: order, From: from, To: to, Amount: amount}
}

func pay(order int, open, captured, refunded int64) api.Pay {
	return api.Pay{Order: order, Open: open, Captured: captured, Refunded: refunded}
}

func books(pays []api.Pay, postings ...api.Posting) api.Books {
	return api.Books{Pays: pays, Postings: postings}
}

// same tells whether books have the same in them.
func same(a, b api.Books) bool {
	return slices.Equal(a.Pays, b.Pays) && slices.Equal(a.Postings, b.Postings)
}

func clone(b api.Books) api.Books {
	return api.Books{Pays: slices.Clone(b.Pays), Postings: slices.Clone(b.Postings)}
}

// some are books of three orders: 2 has 500 open, 5 has 300 captured and 100 of it refunded, 7 has some of everything. What 9 had was voided.
func some() api.Books {
	return books([]api.Pay{pay(2, 500, 0, 0), pay(5, 0, 300, 100), pay(7, 40, 60, 60)},
		posting(5, card, hold, 300), posting(2, card, hold, 500), posting(9, card, hold, 8), posting(5, hold, sales, 300),
		posting(7, card, hold, 60), posting(5, sales, card, 100), posting(7, hold, sales, 60), posting(9, hold, card, 8),
		posting(7, sales, card, 60), posting(7, card, hold, 40))
}

// voided are n postings, of amounts that were authorised and voided again, by turns, of an order; the last one is open, if n is odd.
func voided(order, n int) api.Books {
	var b api.Books
	for i := range n {
		if i%2 == 0 {
			b.Postings = append(b.Postings, posting(order, card, hold, 3))
		} else {
			b.Postings = append(b.Postings, posting(order, hold, card, 3))
		}
	}
	if n%2 == 1 {
		b.Pays = []api.Pay{pay(order, 3, 0, 0)}
	}
	return b
}

// ofEach are books of n orders from 1 on, each with an amount captured.
func ofEach(n int, amount int64) api.Books {
	var b api.Books
	for order := 1; order <= n; order++ {
		b.Pays = append(b.Pays, pay(order, 0, amount, 0))
		b.Postings = append(b.Postings, posting(order, card, hold, amount), posting(order, hold, sales, amount))
	}
	return b
}

// Promise 14.1: books are right at each of the edges that the chapter names, those that no call makes among them.
func TestCheckOfWhatIsRight(t *testing.T) {
	for name, b := range map[string]api.Books{
		"none":                         {},
		"empty":                        {Pays: []api.Pay{}, Postings: []api.Posting{}},
		"some":                         some(),
		"as many postings as may be":   voided(1, api.MaxEvents),
		"one fewer":                    voided(api.MaxOrders, api.MaxEvents-1),
		"as many pays as may be":       ofEach(api.MaxOrders, most),
		"the least amount":             books([]api.Pay{pay(1, 1, 0, 0)}, posting(1, card, hold, 1)),
		"the greatest amount":          books([]api.Pay{pay(api.MaxOrders, most, 0, 0)}, posting(api.MaxOrders, card, hold, most)),
		"the greatest, in two":         books([]api.Pay{pay(1, most, 0, 0)}, posting(1, card, hold, 1), posting(1, card, hold, most-1)),
		"the greatest of all three":    books([]api.Pay{pay(1, most, most, most)}, posting(1, card, hold, most), posting(1, hold, sales, most), posting(1, sales, card, most), posting(1, card, hold, most)),
		"from card to sales":           books([]api.Pay{pay(1, 0, 7, 0)}, posting(1, card, sales, 7)),
		"from sales to hold":           books([]api.Pay{pay(1, 2, 7, 2)}, posting(1, card, sales, 7), posting(1, sales, hold, 2)),
		"refunded ahead":               books([]api.Pay{pay(1, 0, 9, 8)}, posting(1, sales, card, 8), posting(1, card, sales, 9)),
		"the greatest refunded ahead":  books([]api.Pay{pay(1, 0, most, most)}, posting(1, sales, card, most), posting(1, card, sales, most)),
		"voided ahead":                 books([]api.Pay{pay(1, 1, 0, 0)}, posting(1, hold, card, 8), posting(1, card, hold, 9)),
		"the least Open on the way":    books(nil, posting(1, hold, card, most), posting(1, card, hold, most)),
		"the least and the greatest":   books([]api.Pay{pay(1, most, 0, 0)}, posting(1, hold, card, most), posting(1, card, hold, most), posting(1, card, hold, most)),
		"captured ahead of authorised": books([]api.Pay{pay(1, 0, 5, 0)}, posting(1, hold, sales, 5), posting(1, card, hold, 5)),
		"nothing left of it":           books(nil, posting(1, card, hold, 5), posting(1, hold, card, 2), posting(1, hold, card, 3)),
		"all of it refunded":           books([]api.Pay{pay(1, 0, 5, 5)}, posting(1, card, sales, 5), posting(1, sales, card, 5)),
		"the greatest, of two orders":  books([]api.Pay{pay(1, most, 0, 0), pay(2, most, 0, 0)}, posting(2, card, hold, most), posting(1, card, hold, most)),
	} {
		before := clone(b)
		if why := ledger.Check(b); why != api.OK || !same(b, before) {
			t.Errorf("Check of %s: error %d", name, why)
		}
	}
}

// notRight are books that are not right, each in one of the ways that the chapter names.
func notRight() map[string]api.Books {
	m := map[string]api.Books{
		"postings: one too many":        voided(1, api.MaxEvents+2),
		"postings: one too many, open":  voided(1, api.MaxEvents+1),
		"pays: one too many":            {Pays: append(ofEach(api.MaxOrders, 1).Pays, pay(api.MaxOrders+1, 0, 1, 0)), Postings: ofEach(api.MaxOrders, 1).Postings},
		"pays that have no postings":    books([]api.Pay{pay(1, 5, 0, 0)}),
		"postings that have no pays":    books(nil, posting(1, card, hold, 5)),
		"a pay of noughts":              books([]api.Pay{pay(1, 0, 0, 0)}),
		"a pay of noughts, voided":      books([]api.Pay{pay(1, 0, 0, 0)}, posting(1, card, hold, 5), posting(1, hold, card, 5)),
		"a pay that is none":            books([]api.Pay{{}}),
		"pays of another order":         books([]api.Pay{pay(2, 5, 0, 0)}, posting(1, card, hold, 5)),
		"Open below 0":                  books([]api.Pay{pay(1, -5, 0, 0)}, posting(1, hold, card, 5)),
		"Open below 0, captured":        books([]api.Pay{pay(1, -5, 5, 0)}, posting(1, hold, sales, 5)),
		"Open below 0, not told":        books(nil, posting(1, hold, card, 5)),
		"Captured below 0":              books([]api.Pay{pay(1, 0, -5, 0)}),
		"Refunded below 0":              books([]api.Pay{pay(1, 0, 0, -5)}),
		"Refunded above Captured":       books([]api.Pay{pay(1, 0, 5, 6)}, posting(1, card, sales, 5), posting(1, sales, card, 6)),
		"Refunded, nothing captured":    books([]api.Pay{pay(1, 0, 0, 1)}, posting(1, sales, card, 1)),
		"Refunded to hold":              books([]api.Pay{pay(1, 1, 0, 1)}, posting(1, sales, hold, 1)),
		"Refunded, not told":            books(nil, posting(1, sales, card, 1)),
		"Open above":                    books([]api.Pay{pay(1, most+1, 0, 0)}, posting(1, card, hold, most), posting(1, card, hold, 1)),
		"Open above, in one":            books([]api.Pay{pay(1, most+1, 0, 0)}, posting(1, card, hold, most+1)),
		"Captured above":                books([]api.Pay{pay(1, 0, most+1, 0)}, posting(1, card, sales, 1), posting(1, card, sales, most)),
		"Refunded above":                books([]api.Pay{pay(1, 0, most+1, most+1)}, posting(1, card, sales, 1), posting(1, sales, card, 1), posting(1, card, sales, most), posting(1, sales, card, most)),
		"Refunded above, Captured not":  books([]api.Pay{pay(1, 0, most, most+1)}, posting(1, card, sales, most), posting(1, sales, card, most), posting(1, sales, card, 1)),
		"Open above on the way":         books([]api.Pay{pay(1, most, 0, 0)}, posting(1, card, hold, most), posting(1, card, hold, 1), posting(1, hold, card, 1)),
		"Open above on the way, all":    books(nil, posting(1, card, hold, 1), posting(1, card, hold, most), posting(1, hold, card, most), posting(1, hold, card, 1)),
		"Open below on the way":         books(nil, posting(1, hold, card, most), posting(1, hold, card, 1), posting(1, card, hold, 1), posting(1, card, hold, most)),
		"Open below by capturing":       books([]api.Pay{pay(1, 0, 1, 0)}, posting(1, hold, card, most), posting(1, hold, sales, 1), posting(1, card, hold, 1), posting(1, card, hold, most)),
		"Open above by refunding":       books([]api.Pay{pay(1, most, 1, 1)}, posting(1, card, sales, 1), posting(1, card, hold, most), posting(1, sales, hold, 1), posting(1, hold, card, 1)),
		"amounts that go round to none": goingRound(),
		"pays that fall":                {Pays: []api.Pay{pay(5, 0, 300, 100), pay(2, 500, 0, 0), pay(7, 40, 60, 60)}, Postings: some().Postings},
		"the last pay twice":            {Pays: append(some().Pays, pay(7, 40, 60, 60)), Postings: some().Postings},
		"the first pay twice":           {Pays: append([]api.Pay{pay(2, 500, 0, 0)}, some().Pays...), Postings: some().Postings},
		"a pay in two":                  {Pays: []api.Pay{pay(2, 500, 0, 0), pay(5, 0, 300, 100), pay(7, 40, 0, 0), pay(7, 0, 60, 60)}, Postings: some().Postings},
		"a pay too many":                {Pays: append(some().Pays, pay(9, 0, 0, 0)), Postings: some().Postings},
		"no pays at all":                {Postings: some().Postings},
		"no postings at all":            {Pays: some().Pays},
	}
	spoilPays(m)
	spoilPostings(m)
	return m
}

// goingRound are postings whose amounts, if nobody looked on the way, would go round an int64 to nothing.
func goingRound() api.Books {
	var b api.Books
	for range 16 {
		b.Postings = append(b.Postings, posting(1, card, sales, most))
	}
	return b
}

// spoilPays puts to m some books with one pay spoilt, at each place in each way.
func spoilPays(m map[string]api.Books) {
	for at := range some().Pays {
		for i, spoil := range []func(*api.Pay){
			func(p *api.Pay) { p.Order = 0 },
			func(p *api.Pay) { p.Order = -1 },
			func(p *api.Pay) { p.Order = math.MinInt },
			func(p *api.Pay) { p.Order = api.MaxOrders + 1 },
			func(p *api.Pay) { p.Order = math.MaxInt },
			func(p *api.Pay) { p.Order++ },
			func(p *api.Pay) { p.Open++ },
			func(p *api.Pay) { p.Open-- },
			func(p *api.Pay) { p.Open = -1 },
			func(p *api.Pay) { p.Open = math.MinInt64 },
			func(p *api.Pay) { p.Open = most + 1 },
			func(p *api.Pay) { p.Open = math.MaxInt64 },
			func(p *api.Pay) { p.Captured++ },
			func(p *api.Pay) { p.Captured-- },
			func(p *api.Pay) { p.Captured = -1 },
			func(p *api.Pay) { p.Captured = most + 1 },
			func(p *api.Pay) { p.Captured++; p.Refunded++ },
			func(p *api.Pay) { p.Captured++; p.Open-- },
			func(p *api.Pay) { p.Refunded++ },
			func(p *api.Pay) { p.Refunded-- },
			func(p *api.Pay) { p.Refunded = -1 },
			func(p *api.Pay) { p.Refunded = most + 1 },
			func(p *api.Pay) { p.Refunded = p.Captured + 1 },
			func(p *api.Pay) { p.Open, p.Captured, p.Refunded = 0, 0, 0 },
		} {
			b := some()
			spoil(&b.Pays[at])
			m[fmt.Sprintf("the pay at %d spoilt by %d", at, i)] = b
		}
		b := some()
		b.Pays = slices.Delete(b.Pays, at, at+1)
		m[fmt.Sprintf("without the pay at %d", at)] = b
	}
}

// spoilPostings puts to m some books with one posting spoilt, at each place in each way.
func spoilPostings(m map[string]api.Books) {
	for at := range some().Postings {
		for i, spoil := range []func(*api.Posting){
			func(x *api.Posting) { x.Order = 0 },
			func(x *api.Posting) { x.Order = -1 },
			func(x *api.Posting) { x.Order = math.MinInt },
			func(x *api.Posting) { x.Order = api.MaxOrders + 1 },
			func(x *api.Posting) { x.Order = math.MaxInt },
			func(x *api.Posting) { x.Order = 11 },
			func(x *api.Posting) { x.Amount = 0 },
			func(x *api.Posting) { x.Amount = -x.Amount },
			func(x *api.Posting) { x.Amount = math.MinInt64 },
			func(x *api.Posting) { x.Amount = most },
			func(x *api.Posting) { x.Amount = most + 1 },
			func(x *api.Posting) { x.Amount = math.MaxInt64 },
			func(x *api.Posting) { x.Amount++ },
			func(x *api.Posting) { x.From = x.To },
			func(x *api.Posting) { x.To = x.From },
			func(x *api.Posting) { x.From = api.AccountNone },
			func(x *api.Posting) { x.To = api.AccountNone },
			func(x *api.Posting) { x.From = api.AccountCount },
			func(x *api.Posting) { x.To = api.AccountCount },
			func(x *api.Posting) { x.From, x.To = 255, 254 },
			func(x *api.Posting) { x.From, x.To = x.To, x.From },
			func(x *api.Posting) { x.From, x.To, x.Amount = x.To, x.From, -x.Amount },
			func(x *api.Posting) { *x = api.Posting{} },
		} {
			b := some()
			spoil(&b.Postings[at])
			m[fmt.Sprintf("the posting at %d spoilt by %d", at, i)] = b
		}
		b := some()
		b.Postings = slices.Delete(b.Postings, at, at+1)
		m[fmt.Sprintf("without the posting at %d", at)] = b
	}
	for i, x := range []api.Posting{
		posting(0, card, hold, 5), posting(api.MaxOrders+1, card, hold, 5), posting(1, card, hold, 0), posting(1, card, hold, -5),
		posting(1, card, card, 5), posting(1, hold, hold, 5), posting(1, sales, sales, 5),
		posting(1, api.AccountNone, card, 5), posting(1, card, api.AccountNone, 5), posting(1, api.AccountCount, card, 5), posting(1, card, api.AccountCount, 5), {},
	} {
		b := some() // these postings come to nothing, if anything, but they are none
		b.Postings = append(b.Postings, x)
		m[fmt.Sprintf("with a posting behind that is none, %d", i)] = b
	}
}

// Promise 14.1: books that are not right are ErrState, of every call, ahead of all other errors and with nothing beside it. Rule P1: none panics.
func TestNotRight(t *testing.T) {
	for name, b := range notRight() {
		before := clone(b)
		if why := ledger.Check(b); why != api.ErrState {
			t.Errorf("Check of %s: error %d", name, why)
		}
		for _, order := range []int{1, 2, 5, 7, 9, 0, -1, api.MaxOrders + 1} {
			if p, why := ledger.Pay(b, order); p != (api.Pay{}) || why != api.ErrState {
				t.Errorf("Pay of %s: %v, error %d", name, p, why)
			}
			for _, amount := range []int64{1, 0, most + 1} {
				isRefused(t, name+": Authorise", api.ErrState)(ledger.Authorise(b, order, amount))
				isRefused(t, name+": Refund", api.ErrState)(ledger.Refund(b, order, amount))
			}
			isRefusedWith(t, name+": Void", api.ErrState)(ledger.Void(b, order))
			isRefusedWith(t, name+": Capture", api.ErrState)(ledger.Capture(b, order))
		}
		for a := range api.AccountCount + 2 {
			if n, why := ledger.Balance(b, a); n != 0 || why != api.ErrState {
				t.Errorf("Balance of %s: %d, error %d", name, n, why)
			}
		}
		if !same(b, before) {
			t.Errorf("%s has been changed", name)
		}
	}
}

// isRefused tells that a call has answered an error and nothing else.
func isRefused(t *testing.T, name string, want api.Errno) func(api.Books, api.Errno) {
	t.Helper()
	return func(b api.Books, why api.Errno) {
		t.Helper()
		if b.Pays != nil || b.Postings != nil || why != want {
			t.Errorf("%s: %d pays, %d postings, error %d, and not error %d", name, len(b.Pays), len(b.Postings), why, want)
		}
	}
}

// isRefusedWith is isRefused of a call that answers an amount as well.
func isRefusedWith(t *testing.T, name string, want api.Errno) func(api.Books, int64, api.Errno) {
	t.Helper()
	return func(b api.Books, n int64, why api.Errno) {
		t.Helper()
		isRefused(t, name, want)(b, why)
		if n != 0 {
			t.Errorf("%s: %d beside error %d", name, n, why)
		}
	}
}
