package ledger_test

import (
	"math"
	"math/big"
	"testing"

	"lading/api"
	"lading/ledger"
)

// come is what has come to an account less what has gone from it, posting by posting.
func come(b api.Books, a api.Account) *big.Int {
	sum := new(big.Int)
	for _, x := range b.Postings {
		if x.To == a {
			sum.Add(sum, big.NewInt(x.Amount))
		}
		if x.From == a {
			sum.Sub(sum, big.NewInt(x.Amount))
		}
	}
	return sum
}

// balances tells that Balance of each account is what has come to it, or ErrOver.
func balances(t *testing.T, name string, b api.Books) {
	t.Helper()
	before := clone(b)
	for _, a := range []api.Account{card, hold, sales} {
		want, why := come(b, a), api.OK
		if !want.IsInt64() {
			want, why = new(big.Int), api.ErrOver
		}
		if n, got := ledger.Balance(b, a); n != want.Int64() || got != why {
			t.Errorf("%s: Balance of account %d: %d, error %d, and not %d, error %d", name, a, n, got, want, why)
		}
	}
	for _, a := range []api.Account{api.AccountNone, api.AccountCount, api.AccountCount + 1, 128, 255} {
		if n, why := ledger.Balance(b, a); n != 0 || why != api.ErrRange {
			t.Errorf("%s: Balance of account %d: %d, error %d", name, a, n, why)
		}
	}
	if !same(b, before) {
		t.Errorf("%s: Balance has changed what it was handed", name)
	}
}

// heldByEach are books of n orders from 1 on, each with an amount open.
func heldByEach(n int, amount int64) api.Books {
	var b api.Books
	for order := 1; order <= n; order++ {
		b.Pays = append(b.Pays, pay(order, amount, 0, 0))
		b.Postings = append(b.Postings, posting(order, card, hold, amount))
	}
	return b
}

// Promise 14.1: what each account has, of books that calls make and of others that are right; of what is no account ErrRange.
func TestBalance(t *testing.T) {
	balances(t, "none", api.Books{})
	balances(t, "some", some())
	balances(t, "as many postings as may be", voided(4, api.MaxEvents))
	balances(t, "one of them open", voided(4, api.MaxEvents-1))
	balances(t, "as many orders as may be", ofEach(api.MaxOrders, 77))
	balances(t, "as many orders held as may be", heldByEach(api.MaxOrders, 77))
	balances(t, "from card to sales to hold", books([]api.Pay{pay(1, 2, 7, 2), pay(3, 0, 4, 0)}, posting(1, card, sales, 7), posting(3, card, sales, 4), posting(1, sales, hold, 2)))
	all := api.Books{}
	for order := 1; order <= api.MaxOrders; order++ {
		all.Pays = append(all.Pays, pay(order, 3, 9, 4))
		all.Postings = append(all.Postings, posting(order, card, hold, 9), posting(order, hold, sales, 9), posting(order, sales, card, 4), posting(order, card, hold, 3))
	}
	balances(t, "as many orders with some of everything", all)
}

// Promise 14.1: ErrOver just if the balance is no int64: eight times 2^60 is above the greatest one, and as far below 0 it is the least one.
func TestBalanceIsOver(t *testing.T) {
	for n := 6; n <= 10; n++ {
		balances(t, "captured", ofEach(n, most))
		balances(t, "held", heldByEach(n, most))
		balances(t, "held, one less", heldByEach(n, most-1))
	}
	if n, why := ledger.Balance(ofEach(8, most), sales); n != 0 || why != api.ErrOver {
		t.Error("Balance of sales of eight:", n, why)
	}
	if n, why := ledger.Balance(ofEach(8, most), card); n != math.MinInt64 || why != api.OK {
		t.Error("Balance of the card of eight:", n, why)
	}
	if n, why := ledger.Balance(ofEach(8, most), hold); n != 0 || why != api.OK {
		t.Error("Balance of hold of eight:", n, why)
	}
	if n, why := ledger.Balance(ofEach(9, most), card); n != 0 || why != api.ErrOver {
		t.Error("Balance of the card of nine:", n, why)
	}
	most7 := heldByEach(8, most)
	most7.Pays[7].Open, most7.Postings[7].Amount = most-1, most-1
	if n, why := ledger.Balance(most7, hold); n != math.MaxInt64 || why != api.OK {
		t.Error("Balance of one less than eight:", n, why)
	}
	balances(t, "all that can be", ofEach(api.MaxOrders, most))
	balances(t, "all that can be held", heldByEach(api.MaxOrders, most))
}

// Promise 14.1: sums that are beyond on the way do not count: what is captured of many, and refunded of them, comes to what is left.
func TestBalanceOnTheWay(t *testing.T) {
	b := ofEach(api.MaxOrders, most)
	for i := range b.Pays {
		if i >= 3 {
			b.Pays[i].Refunded = most
			b.Postings = append(b.Postings, posting(i+1, sales, card, most))
		}
	}
	balances(t, "all but three refunded", b)
	if n, why := ledger.Balance(b, sales); n != 3*most || why != api.OK {
		t.Error("Balance of sales:", n, why)
	}
	if n, why := ledger.Balance(b, card); n != -3*most || why != api.OK {
		t.Error("Balance of the card:", n, why)
	}
}
