package ledger_test

import (
	"math/big"
	"math/rand/v2"
	"slices"
	"testing"

	"lading/api"
	"lading/ledger"
)

// till is a ledger as the chapter tells it, in the plainest way: an order's pay in a map, and all postings.
type till struct {
	pays     map[int]api.Pay
	postings []api.Posting
}

type step struct {
	call   string
	order  int
	amount int64
}

// do is what a step comes to: an amount that has gone, or an error.
func (l *till) do(s step) (int64, api.Errno) {
	if s.order < 1 || s.order > api.MaxOrders {
		return 0, api.ErrRange
	}
	p := l.pays[s.order]
	p.Order = s.order
	amount, from, to := s.amount, hold, sales
	switch s.call {
	case "Authorise":
		from, to = card, hold
	case "Void":
		to = card
	case "Refund":
		from, to = sales, card
	}
	if s.call == "Authorise" || s.call == "Refund" {
		if amount < 1 || amount > most {
			return 0, api.ErrRange
		}
	} else {
		amount = p.Open
	}
	switch {
	case s.call == "Authorise" && p.Open > 0, from == hold && p.Open == 0:
		return 0, api.ErrState
	case s.call == "Refund" && p.Captured-p.Refunded < amount:
		return 0, api.ErrStock
	case len(l.postings) == api.MaxEvents:
		return 0, api.ErrMany
	case s.call == "Capture" && p.Captured+amount > most:
		return 0, api.ErrOver
	}
	switch s.call {
	case "Authorise":
		p.Open = amount
	case "Void":
		p.Open = 0
	case "Capture":
		p.Open, p.Captured = 0, p.Captured+amount
	case "Refund":
		p.Refunded += amount
	}
	l.pays[s.order] = p
	l.postings = append(l.postings, posting(s.order, from, to, amount))
	return amount, api.OK
}

func (l *till) books() api.Books {
	b := api.Books{Postings: l.postings}
	for _, p := range l.pays {
		if p.Open != 0 || p.Captured != 0 || p.Refunded != 0 {
			b.Pays = append(b.Pays, p)
		}
	}
	slices.SortFunc(b.Pays, func(a, b api.Pay) int { return a.Order - b.Order })
	return b
}

// does is what the ledger answers to a step.
func does(b api.Books, s step) (api.Books, int64, api.Errno) {
	switch s.call {
	case "Authorise":
		k, why := ledger.Authorise(b, s.order, s.amount)
		return k, 0, why
	case "Refund":
		k, why := ledger.Refund(b, s.order, s.amount)
		return k, 0, why
	case "Void":
		return ledger.Void(b, s.order)
	}
	return ledger.Capture(b, s.order)
}

// asked is a random step, mostly of a few orders and of small amounts.
func asked(r *rand.Rand) step {
	s := step{call: []string{"Authorise", "Void", "Capture", "Capture", "Refund"}[r.IntN(5)], order: r.IntN(4)*r.IntN(80) + 1, amount: r.Int64N(9) + 1}
	switch r.IntN(16) {
	case 0:
		s.order = []int{0, -1, api.MaxOrders, api.MaxOrders + 1}[r.IntN(4)]
	case 1:
		s.amount = []int64{0, -1, most, most + 1, most - 20}[r.IntN(5)]
	}
	return s
}

// Promises 14.2, 14.4, 14.5 and 14.6 and rule P7: a long run is what the plain till is, step by step; the balances come to nothing together, no more is refunded than was captured, no other order's pay is changed, and what is refused changes nothing.
func TestLongRun(t *testing.T) {
	for seed := range uint64(20) {
		r := rand.New(rand.NewPCG(seed, 14))
		l := &till{pays: map[int]api.Pay{}}
		var b api.Books
		for range 600 {
			s := asked(r)
			want, refusal := l.do(s)
			if s.call == "Authorise" || s.call == "Refund" {
				want = 0
			}
			before := clone(b)
			k, n, why := does(b, s)
			if n != want || why != refusal || !same(b, before) {
				t.Fatalf("%v: %d, error %d, and not %d, error %d", s, n, why, want, refusal)
			}
			if why != api.OK {
				isRefused(t, s.call, why)(k, why)
				continue
			}
			if !same(k, l.books()) {
				t.Fatalf("%v: pays %v, and not %v", s, k.Pays, l.books().Pays)
			}
			must(t, ledger.Check(k))
			isOf := func(p api.Pay) bool { return p.Order == s.order }
			if !slices.Equal(slices.DeleteFunc(slices.Clone(b.Pays), isOf), slices.DeleteFunc(slices.Clone(k.Pays), isOf)) {
				t.Fatalf("%v has changed another order's pay", s)
			}
			if slices.ContainsFunc(k.Pays, func(p api.Pay) bool { return p.Refunded > p.Captured || p.Open < 0 }) {
				t.Fatalf("%v: more has gone than has come: %v", s, k.Pays)
			}
			b = k
			if r.IntN(8) == 0 {
				comesToNothing(t, b)
			}
		}
	}
}

// comesToNothing tells that the three balances are what the postings say, and together nothing.
func comesToNothing(t *testing.T, b api.Books) {
	t.Helper()
	balances(t, "a run", b)
	all := new(big.Int)
	for _, a := range []api.Account{card, hold, sales} {
		n, why := ledger.Balance(b, a)
		if why == api.ErrOver {
			return // told by balances
		}
		must(t, why)
		all.Add(all, big.NewInt(n))
	}
	if all.Sign() != 0 {
		t.Fatal("the balances come to", all)
	}
}

// Promise 14.6: what is done for two orders leaves the same pays in whichever order it is done; each order's postings stand in the order in which they were made.
func TestEitherOrder(t *testing.T) {
	r := rand.New(rand.NewPCG(6, 14))
	for range 400 {
		var one, two []step
		for range 6 {
			a, b := asked(r), asked(r)
			a.order, b.order = 3, 4
			one, two = append(one, a), append(two, b)
		}
		start := some()
		first := run(start, slices.Concat(one, two))
		second := run(start, slices.Concat(two, one))
		var turns []step
		for i := range one {
			turns = append(turns, one[i], two[i])
		}
		third := run(start, turns)
		if !slices.Equal(first.Pays, second.Pays) || !slices.Equal(first.Pays, third.Pays) {
			t.Fatalf("%v and %v: %v, %v, %v", one, two, first.Pays, second.Pays, third.Pays)
		}
		for _, order := range []int{2, 3, 4, 5, 7, 9} {
			if !slices.Equal(of(first, order), of(second, order)) || !slices.Equal(of(first, order), of(third, order)) {
				t.Fatalf("%v and %v: postings of %d are others", one, two, order)
			}
		}
	}
}

// run does steps one behind the other, leaving out those that are refused.
func run(b api.Books, l []step) api.Books {
	for _, s := range l {
		if k, _, why := does(b, s); why == api.OK {
			b = k
		}
	}
	return b
}

// of are an order's postings.
func of(b api.Books, order int) []api.Posting {
	return slices.DeleteFunc(slices.Clone(b.Postings), func(x api.Posting) bool { return x.Order != order })
}

// right is the chapter's words, looked at as they stand, for books made by hand.
func right(b api.Books) bool {
	if len(b.Pays) > api.MaxOrders || len(b.Postings) > api.MaxEvents {
		return false
	}
	told := map[int]api.Pay{}
	for i, p := range b.Pays {
		rises := i == 0 || b.Pays[i-1].Order < p.Order
		isIn := min(p.Open, p.Captured, p.Refunded) >= 0 && max(p.Open, p.Captured, p.Refunded) <= most
		if !rises || p.Order < 1 || p.Order > api.MaxOrders || !isIn || p.Refunded > p.Captured || p.Open|p.Captured|p.Refunded == 0 {
			return false
		}
		told[p.Order] = p
	}
	sums := map[int]api.Pay{}
	for _, x := range b.Postings {
		accounts := x.From >= card && x.From <= sales && x.To >= card && x.To <= sales && x.From != x.To
		if x.Order < 1 || x.Order > api.MaxOrders || x.Amount < 1 || x.Amount > most || !accounts {
			return false
		}
		p := sums[x.Order]
		p.Order = x.Order
		if x.To == hold {
			p.Open += x.Amount
		}
		if x.From == hold {
			p.Open -= x.Amount
		}
		if x.To == sales {
			p.Captured += x.Amount
		}
		if x.From == sales {
			p.Refunded += x.Amount
		}
		if max(p.Open, p.Captured, p.Refunded) > most || p.Open < -most {
			return false
		}
		sums[x.Order] = p
	}
	for order, p := range sums {
		if want := told[order]; p.Open != want.Open || p.Captured != want.Captured || p.Refunded != want.Refunded {
			return false
		}
		delete(told, order)
	}
	return len(told) == 0
}

// Promise 14.1: random postings with the pays that they come to, now and then spoilt, are right just if the chapter's words say so.
func TestCheckOfRandomBooks(t *testing.T) {
	r := rand.New(rand.NewPCG(1, 14))
	good, bad := 0, 0
	for range 20000 {
		b := randomBooks(r)
		want := api.ErrState
		if right(b) {
			want = api.OK
			good++
		} else {
			bad++
		}
		if why := ledger.Check(b); why != want {
			t.Fatalf("Check of %v: error %d, and not %d", b, why, want)
		}
		if want == api.OK {
			balances(t, "random books", b)
		}
	}
	if good < 1000 || bad < 1000 {
		t.Error("too few of a kind:", good, bad)
	}
}

// randomBooks are a few postings of three orders, of small amounts and of great ones, and their pays.
func randomBooks(r *rand.Rand) api.Books {
	var b api.Books
	sums := map[int]api.Pay{}
	amounts := []int64{1, 2, 3, most - 1, most}
	if r.IntN(2) == 0 {
		amounts = amounts[:3]
	}
	for range r.IntN(7) {
		from := api.Account(r.IntN(3) + 1)
		to := (from+api.Account(r.IntN(2)))%3 + 1
		x := posting(r.IntN(3)+1, from, to, amounts[r.IntN(len(amounts))])
		if p := sums[x.Order]; from == sales && p.Captured-p.Refunded < x.Amount && r.IntN(4) > 0 {
			x.From, x.To = card, sales
		}
		b.Postings = append(b.Postings, x)
		p := sums[x.Order]
		p.Order = x.Order
		p.Open += map[api.Account]int64{hold: x.Amount}[x.To] - map[api.Account]int64{hold: x.Amount}[x.From]
		p.Captured += map[api.Account]int64{sales: x.Amount}[x.To]
		p.Refunded += map[api.Account]int64{sales: x.Amount}[x.From]
		sums[x.Order] = p
	}
	for order := 1; order <= 3; order++ {
		if p := sums[order]; p.Open|p.Captured|p.Refunded != 0 || r.IntN(30) == 0 {
			b.Pays = append(b.Pays, p)
		}
	}
	if r.IntN(8) == 0 && len(b.Pays) > 0 {
		p := &b.Pays[r.IntN(len(b.Pays))]
		*[]*int64{&p.Open, &p.Captured, &p.Refunded}[r.IntN(3)] += r.Int64N(3) - 1
	}
	if r.IntN(20) == 0 && len(b.Postings) > 0 {
		x := &b.Postings[r.IntN(len(b.Postings))]
		x.From, x.To = api.Account(r.IntN(6)), api.Account(r.IntN(6))
	}
	return b
}
