package ledger_test

import (
	"math"
	"slices"
	"testing"

	"lading/api"
	"lading/ledger"
)

// has tells what the pay of an order is, that the books are right, and what the accounts have.
func has(t *testing.T, b api.Books, want api.Pay, onCard, onHold, onSales int64) {
	t.Helper()
	must(t, ledger.Check(b))
	order := want.Order
	if want.Open == 0 && want.Captured == 0 && want.Refunded == 0 {
		want = api.Pay{}
	}
	if p, why := ledger.Pay(b, order); p != want || why != api.OK {
		t.Errorf("Pay of %d: %v, error %d, and not %v", order, p, why, want)
	}
	for a, amount := range map[api.Account]int64{card: onCard, hold: onHold, sales: onSales} {
		if n, why := ledger.Balance(b, a); n != amount || why != api.OK {
			t.Errorf("Balance of account %d: %d, error %d, and not %d", a, n, why, amount)
		}
	}
}

// authorise, void, capture and refund do what they must, and tell that nothing that was handed in is changed.
func authorise(t *testing.T, b api.Books, order int, amount int64) api.Books {
	t.Helper()
	before := clone(b)
	k, why := ledger.Authorise(b, order, amount)
	must(t, why)
	return goesOn(t, b, before, k, posting(order, card, hold, amount))
}

func void(t *testing.T, b api.Books, order int, amount int64) api.Books {
	t.Helper()
	before := clone(b)
	k, n, why := ledger.Void(b, order)
	must(t, why)
	if n != amount {
		t.Errorf("Void: %d, and not %d", n, amount)
	}
	return goesOn(t, b, before, k, posting(order, hold, card, amount))
}

func capture(t *testing.T, b api.Books, order int, amount int64) api.Books {
	t.Helper()
	before := clone(b)
	k, n, why := ledger.Capture(b, order)
	must(t, why)
	if n != amount {
		t.Errorf("Capture: %d, and not %d", n, amount)
	}
	return goesOn(t, b, before, k, posting(order, hold, sales, amount))
}

func refund(t *testing.T, b api.Books, order int, amount int64) api.Books {
	t.Helper()
	before := clone(b)
	k, why := ledger.Refund(b, order, amount)
	must(t, why)
	return goesOn(t, b, before, k, posting(order, sales, card, amount))
}

// goesOn tells that books were left as they were, and that what was made of them has a posting behind the others.
func goesOn(t *testing.T, b, before, k api.Books, x api.Posting) api.Books {
	t.Helper()
	if !same(b, before) {
		t.Error("what was handed in has been changed")
	}
	if !slices.Equal(k.Postings, append(slices.Clone(before.Postings), x)) {
		t.Errorf("postings: %v behind %v", k.Postings, before.Postings)
	}
	must(t, ledger.Check(k))
	return k
}

// Promises 14.1 and 14.2, by the chapter's example.
func TestExample(t *testing.T) {
	b := authorise(t, api.Books{}, 1, 500)
	b = capture(t, b, 1, 500)
	has(t, b, pay(1, 0, 500, 0), -500, 0, 500)
	b = refund(t, b, 1, 200)
	has(t, b, pay(1, 0, 500, 200), -300, 0, 300)
	isRefused(t, "Refund", api.ErrStock)(ledger.Refund(b, 1, 400))
}

// Promise 14.1: orders out of their range are ErrRange, of every call, ahead of its own errors.
func TestOrders(t *testing.T) {
	full := voided(1, api.MaxEvents-1)
	for _, b := range []api.Books{{}, some(), full, voided(1, api.MaxEvents)} {
		before := clone(b)
		for _, order := range []int{0, -1, math.MinInt, api.MaxOrders + 1, math.MaxInt} {
			if p, why := ledger.Pay(b, order); p != (api.Pay{}) || why != api.ErrRange {
				t.Errorf("Pay of %d: %v, error %d", order, p, why)
			}
			isRefused(t, "Authorise", api.ErrRange)(ledger.Authorise(b, order, 1))
			isRefused(t, "Refund", api.ErrRange)(ledger.Refund(b, order, 1))
			isRefusedWith(t, "Void", api.ErrRange)(ledger.Void(b, order))
			isRefusedWith(t, "Capture", api.ErrRange)(ledger.Capture(b, order))
		}
		if !same(b, before) {
			t.Error("what was handed in has been changed")
		}
	}
	for _, order := range []int{1, 2, api.MaxOrders - 1, api.MaxOrders} {
		b := refund(t, capture(t, authorise(t, api.Books{}, order, 5), order, 5), order, 2)
		has(t, b, pay(order, 0, 5, 2), -3, 0, 3)
		has(t, void(t, authorise(t, b, order, 4), order, 4), pay(order, 0, 5, 2), -3, 0, 3)
	}
}

// Promise 14.1: the pay of each order that has one, and one of noughts of all others.
func TestPay(t *testing.T) {
	want := map[int]api.Pay{2: pay(2, 500, 0, 0), 5: pay(5, 0, 300, 100), 7: pay(7, 40, 60, 60)}
	b := some()
	for order := 1; order <= api.MaxOrders; order++ {
		if p, why := ledger.Pay(b, order); p != want[order] || why != api.OK {
			t.Errorf("Pay of %d: %v, error %d", order, p, why)
		}
	}
	if !same(b, some()) {
		t.Error("Pay has changed what it was handed")
	}
	each := ofEach(api.MaxOrders, 8)
	for order := 1; order <= api.MaxOrders; order++ {
		if p, why := ledger.Pay(each, order); p != pay(order, 0, 8, 0) || why != api.OK {
			t.Errorf("Pay of %d of all: %v, error %d", order, p, why)
		}
	}
	for _, none := range []api.Books{{}, {Pays: []api.Pay{}, Postings: []api.Posting{}}} {
		if p, why := ledger.Pay(none, 1); p != (api.Pay{}) || why != api.OK {
			t.Errorf("Pay of none: %v, error %d", p, why)
		}
	}
}

// Promise 14.2: amounts of 1 and of 2^60 go, those beyond are ErrRange, ahead of all other errors of Authorise and Refund.
func TestAmounts(t *testing.T) {
	open, captured := authorise(t, api.Books{}, 1, 500), capture(t, authorise(t, api.Books{}, 1, most), 1, most)
	full, fullOpen := voided(1, api.MaxEvents), voided(1, api.MaxEvents-1)
	fullOpen.Postings = append(fullOpen.Postings, posting(2, card, hold, 5))
	fullOpen.Pays = append(fullOpen.Pays, pay(2, 5, 0, 0))
	must(t, ledger.Check(fullOpen))
	for _, b := range []api.Books{{}, open, captured, full, fullOpen} {
		for _, amount := range []int64{0, -1, -most, math.MinInt64, most + 1, math.MaxInt64} {
			isRefused(t, "Authorise", api.ErrRange)(ledger.Authorise(b, 1, amount))
			isRefused(t, "Refund", api.ErrRange)(ledger.Refund(b, 1, amount))
		}
	}
	for _, amount := range []int64{1, 2, most - 1, most} {
		b := authorise(t, api.Books{}, 3, amount)
		has(t, b, pay(3, amount, 0, 0), -amount, amount, 0)
		b = capture(t, b, 3, amount)
		has(t, b, pay(3, 0, amount, 0), -amount, 0, amount)
		b = refund(t, b, 3, amount)
		has(t, b, pay(3, 0, amount, amount), 0, 0, 0)
		b = authorise(t, b, 3, amount)
		has(t, b, pay(3, amount, amount, amount), -amount, amount, 0)
		b = void(t, b, 3, amount)
		has(t, b, pay(3, 0, amount, amount), 0, 0, 0)
	}
}

// Promise 14.2: what is open is not authorised once more; nothing open is neither voided nor captured; behind a void and a capture it goes anew.
func TestOpenOnce(t *testing.T) {
	isRefusedWith(t, "Void of none", api.ErrState)(ledger.Void(api.Books{}, 1))
	isRefusedWith(t, "Capture of none", api.ErrState)(ledger.Capture(api.Books{}, 1))
	b := authorise(t, api.Books{}, 1, 500)
	has(t, b, pay(1, 500, 0, 0), -500, 500, 0)
	for _, amount := range []int64{1, 500, most} {
		isRefused(t, "Authorise of what is open", api.ErrState)(ledger.Authorise(b, 1, amount))
	}
	isRefusedWith(t, "Void of another order", api.ErrState)(ledger.Void(b, 2))
	isRefusedWith(t, "Capture of another order", api.ErrState)(ledger.Capture(b, 2))
	v := void(t, b, 1, 500)
	has(t, v, pay(1, 0, 0, 0), 0, 0, 0)
	if len(v.Pays) != 0 {
		t.Error("what was voided is still a pay:", v.Pays)
	}
	isRefusedWith(t, "Void once more", api.ErrState)(ledger.Void(v, 1))
	isRefusedWith(t, "Capture of what was voided", api.ErrState)(ledger.Capture(v, 1))
	v = capture(t, authorise(t, v, 1, 70), 1, 70)
	has(t, v, pay(1, 0, 70, 0), -70, 0, 70)
	c := capture(t, b, 1, 500)
	isRefusedWith(t, "Capture once more", api.ErrState)(ledger.Capture(c, 1))
	isRefusedWith(t, "Void of what was captured", api.ErrState)(ledger.Void(c, 1))
	c = authorise(t, c, 1, 30)
	has(t, c, pay(1, 30, 500, 0), -530, 30, 500)
	isRefused(t, "Authorise of what is open anew", api.ErrState)(ledger.Authorise(c, 1, 30))
	has(t, capture(t, c, 1, 30), pay(1, 0, 530, 0), -530, 0, 530)
	has(t, void(t, c, 1, 30), pay(1, 0, 500, 0), -500, 0, 500)
}

// Promises 14.2 and 14.5: refunds go in parts up to what was captured, and not beyond; what is open is not refunded.
func TestRefunds(t *testing.T) {
	isRefused(t, "Refund of none", api.ErrStock)(ledger.Refund(api.Books{}, 1, 1))
	b := authorise(t, api.Books{}, 1, 500)
	isRefused(t, "Refund of what is open", api.ErrStock)(ledger.Refund(b, 1, 1))
	b = capture(t, b, 1, 500)
	isRefused(t, "Refund of one more", api.ErrStock)(ledger.Refund(b, 1, 501))
	isRefused(t, "Refund of the most", api.ErrStock)(ledger.Refund(b, 1, most))
	isRefused(t, "Refund of another order", api.ErrStock)(ledger.Refund(b, 2, 1))
	b = refund(t, b, 1, 1)
	isRefused(t, "Refund of one more than is left", api.ErrStock)(ledger.Refund(b, 1, 500))
	b = refund(t, b, 1, 198)
	b = refund(t, b, 1, 1)
	has(t, b, pay(1, 0, 500, 200), -300, 0, 300)
	isRefused(t, "Refund of one more than is left", api.ErrStock)(ledger.Refund(b, 1, 301))
	b = refund(t, b, 1, 300)
	has(t, b, pay(1, 0, 500, 500), 0, 0, 0)
	isRefused(t, "Refund of nothing", api.ErrStock)(ledger.Refund(b, 1, 1))
	b = capture(t, authorise(t, b, 1, 7), 1, 7)
	isRefused(t, "Refund of more than is new", api.ErrStock)(ledger.Refund(b, 1, 8))
	has(t, refund(t, b, 1, 7), pay(1, 0, 507, 507), 0, 0, 0)
}

// Promise 14.2: what would be captured above 2^60 is ErrOver, and may still be voided.
func TestCaptureIsOver(t *testing.T) {
	b := capture(t, authorise(t, api.Books{}, 1, most-5), 1, most-5)
	six := authorise(t, b, 1, 6)
	isRefusedWith(t, "Capture of one too many", api.ErrOver)(ledger.Capture(six, 1))
	has(t, void(t, six, 1, 6), pay(1, 0, most-5, 0), -(most - 5), 0, most-5)
	has(t, capture(t, authorise(t, b, 1, 5), 1, 5), pay(1, 0, most, 0), -most, 0, most)
	all := authorise(t, b, 1, most)
	isRefusedWith(t, "Capture of far too many", api.ErrOver)(ledger.Capture(all, 1))
	back := refund(t, b, 1, most-5)
	isRefusedWith(t, "Capture behind a refund", api.ErrOver)(ledger.Capture(authorise(t, back, 1, 6), 1))
}

// Promise 14.2: up to MaxEvents postings there are more of them; then each call that is otherwise done is ErrMany, behind its own errors and ahead of ErrOver.
func TestTooManyPostings(t *testing.T) {
	nearly := voided(1, api.MaxEvents-2)
	b := authorise(t, nearly, 1, 3)
	has(t, void(t, b, 1, 3), pay(1, 0, 0, 0), 0, 0, 0)
	b = capture(t, b, 1, 3)
	if len(b.Postings) != api.MaxEvents {
		t.Fatal(len(b.Postings), "postings")
	}
	isRefused(t, "Authorise", api.ErrMany)(ledger.Authorise(b, 1, 1))
	isRefused(t, "Authorise of another order", api.ErrMany)(ledger.Authorise(b, 2, most))
	isRefused(t, "Refund", api.ErrMany)(ledger.Refund(b, 1, 3))
	isRefused(t, "Refund of too many", api.ErrStock)(ledger.Refund(b, 1, 4))
	isRefusedWith(t, "Void", api.ErrState)(ledger.Void(b, 1))
	isRefusedWith(t, "Capture", api.ErrState)(ledger.Capture(b, 1))
	open := authorise(t, voided(2, api.MaxEvents-2), 2, 3)
	open = authorise(t, open, 1, 9)
	isRefused(t, "Authorise of what is open", api.ErrState)(ledger.Authorise(open, 1, 1))
	isRefusedWith(t, "Void of what is open", api.ErrMany)(ledger.Void(open, 1))
	isRefusedWith(t, "Capture of what is open", api.ErrMany)(ledger.Capture(open, 2))
	isRefused(t, "Refund of what is open", api.ErrStock)(ledger.Refund(open, 1, 1))
	over := voided(2, api.MaxEvents-4)
	over = authorise(t, capture(t, authorise(t, over, 1, most), 1, most), 1, 1)
	isRefusedWith(t, "Capture that is over", api.ErrOver)(ledger.Capture(over, 1))
	isRefusedWith(t, "Capture that is over, of too many", api.ErrMany)(ledger.Capture(authorise(t, over, 2, 1), 1))
}

// spoil makes of books what no call would answer.
func spoil(b api.Books) {
	for i := range b.Pays {
		b.Pays[i] = pay(-1, -1, -1, -1)
	}
	for i := range b.Postings {
		b.Postings[i] = posting(-1, 255, 255, -1)
	}
}

// roomy are books with room behind their lists, into which nothing is to be put.
func roomy(b api.Books) api.Books {
	k := api.Books{Pays: make([]api.Pay, len(b.Pays), 64), Postings: make([]api.Posting, len(b.Postings), 64)}
	copy(k.Pays, b.Pays)
	copy(k.Postings, b.Postings)
	return k
}

// Promise 14.3: what is answered shares no memory with what was handed in, nor with an earlier answer, in both lists.
func TestNewMemory(t *testing.T) {
	void := func(b api.Books, order int) (api.Books, api.Errno) {
		k, _, why := ledger.Void(b, order)
		return k, why
	}
	capture := func(b api.Books, order int) (api.Books, api.Errno) {
		k, _, why := ledger.Capture(b, order)
		return k, why
	}
	for name, do := range map[string]func(api.Books) (api.Books, api.Errno){
		"Authorise ahead of all":        func(b api.Books) (api.Books, api.Errno) { return ledger.Authorise(b, 1, 9) },
		"Authorise between":             func(b api.Books) (api.Books, api.Errno) { return ledger.Authorise(b, 3, 9) },
		"Authorise of one that is":      func(b api.Books) (api.Books, api.Errno) { return ledger.Authorise(b, 5, 9) },
		"Authorise behind all":          func(b api.Books) (api.Books, api.Errno) { return ledger.Authorise(b, 8, 9) },
		"Void of one that goes":         func(b api.Books) (api.Books, api.Errno) { return void(b, 2) },
		"Void of one that stays":        func(b api.Books) (api.Books, api.Errno) { return void(b, 7) },
		"Capture of the first":          func(b api.Books) (api.Books, api.Errno) { return capture(b, 2) },
		"Capture of the last":           func(b api.Books) (api.Books, api.Errno) { return capture(b, 7) },
		"Refund of one between the two": func(b api.Books) (api.Books, api.Errno) { return ledger.Refund(b, 5, 9) },
	} {
		want, why := do(some())
		must(t, why)
		b := roomy(some())
		k, why := do(b)
		must(t, why)
		again, why := do(b)
		must(t, why)
		spoil(b)
		if !same(k, want) || !same(again, want) {
			t.Errorf("%s has kept what it was handed", name)
		}
		spoil(k)
		if !same(again, want) {
			t.Errorf("%s answers what it has answered", name)
		}
		b = roomy(some())
		k, why = do(b)
		must(t, why)
		spoil(api.Books{Pays: k.Pays[:cap(k.Pays)], Postings: k.Postings[:cap(k.Postings)]})
		n, m := len(b.Pays), len(b.Postings)
		room := slices.Equal(b.Pays[n:cap(b.Pays)], make([]api.Pay, 64-n)) && slices.Equal(b.Postings[m:cap(b.Postings)], make([]api.Posting, 64-m))
		if !same(b, some()) || !room {
			t.Errorf("%s answers what it was handed", name)
		}
	}
}
