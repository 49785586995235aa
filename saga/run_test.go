package saga_test

import (
	"fmt"
	"math/rand/v2"
	"slices"
	"testing"

	"lading/api"
	"lading/ledger"
	"lading/saga"
)

// anyLines are some of few cells, mostly lines that may be, of an order or of a restock.
func anyLines(r *rand.Rand, unit int64) []api.Line {
	var l []api.Line
	for range r.IntN(3) + 1 {
		l = append(l, line(r.IntN(2)+1, r.IntN(2)+1, r.Int64N(12-9*unit)+1, unit*r.Int64N(400)))
	}
	switch r.IntN(24) {
	case 0:
		l[0].Qty = 0
	case 1:
		l = nil
	case 2:
		l[0].Item = api.MaxItems + 1
	case 3:
		l = slices.Repeat(l[:1], api.MaxLines+1)
	case 4:
		l[0].Unit += unit - 1
	}
	return l
}

// anyAsk is a random request, mostly of few orders and marks.
func anyAsk(r *rand.Rand) api.Ask {
	a := api.Ask{Kind: api.AskKind(r.IntN(int(api.AskCount))), Order: r.IntN(40) + 1}
	if r.IntN(3) == 0 {
		a.Kind = api.AskCheckout
	}
	switch a.Kind {
	case api.AskRestock:
		a.Lines = anyLines(r, 0)
	case api.AskFree:
		a.Lines = anyLines(r, 0)
		if r.IntN(4) > 0 {
			a.Lines = a.Lines[:min(len(a.Lines), 1)]
		}
	default:
		a.Lines = anyLines(r, 1)
	}
	if r.IntN(3) == 0 {
		a.Mark = fmt.Sprint("m", r.IntN(200))
	}
	return a
}

// came is what came by restocks, of each cell.
type came map[[2]int]int64

// addsUp tells promise 17.6 and rule P7 of a state: the units that came are somewhere, the books come to nothing, and each order has paid what its status says.
func addsUp(t *testing.T, s api.State, c came) {
	t.Helper()
	must(t, saga.Check(s))
	all := int64(0)
	for _, x := range s.Cells {
		if x.Free+x.Held+x.Out != c[[2]int{x.Item, x.Ware}] || min(x.Free, x.Held, x.Out) < 0 {
			t.Fatalf("%v, and %d came", x, c[[2]int{x.Item, x.Ware}])
		}
		all += x.All
	}
	for _, n := range c {
		all -= n
	}
	sum := int64(0)
	for a := api.AccountCard; a < api.AccountCount; a++ {
		n, why := ledger.Balance(s.Books, a)
		must(t, why)
		sum += n
	}
	if all != 0 || sum != 0 {
		t.Fatal("units:", all, "money:", sum)
	}
	for _, o := range s.Orders {
		p, why := ledger.Pay(s.Books, o.Id)
		must(t, why)
		paid := p.Captured - p.Refunded
		switch o.Status {
		case api.StatusFulfilled:
			if paid != o.Price || p.Open != 0 {
				t.Fatal("fulfilled:", o, p)
			}
		case api.StatusRejected, api.StatusCancelled, api.StatusReturned:
			if paid != 0 || p.Open != 0 {
				t.Fatal("nothing should be paid:", o, p)
			}
		}
	}
}

// settles tells promise 17.7 and rule P8: behind as many pumps as are pending, all accepted, everything is at its end.
func settles(t *testing.T, s api.State, r *rand.Rand, c came) {
	t.Helper()
	n, why := saga.Pending(s)
	must(t, why)
	for ; n > 0 && len(s.Sagas) > 0; n-- {
		s, _ = pump(t, s, int(r.Int64()), accept)
	}
	addsUp(t, s, c)
	if left, why := saga.Pending(s); len(s.Sagas) != 0 || left != 0 || why != api.OK {
		t.Fatal("sagas are left:", s.Sagas, left, why)
	}
	out := came{}
	for _, o := range s.Orders {
		switch o.Status {
		case api.StatusFulfilled:
			for _, x := range o.Lines {
				out[[2]int{x.Item, x.Ware}] += x.Qty
			}
		case api.StatusRejected, api.StatusCancelled, api.StatusReturned:
		default:
			t.Fatal("not at its end:", o)
		}
	}
	for _, x := range s.Cells {
		if x.Held != 0 || x.Out != out[[2]int{x.Item, x.Ware}] {
			t.Fatalf("%v, and %d is out", x, out[[2]int{x.Item, x.Ware}])
		}
	}
	for _, p := range s.Books.Pays {
		if p.Open != 0 {
			t.Fatal("open:", p)
		}
	}
}

// asksAgain tells promise 17.8: what was asked with a mark is answered the same, and changes nothing.
func asksAgain(t *testing.T, s api.State, r *rand.Rand) {
	t.Helper()
	for _, x := range s.Kept {
		a := anyAsk(r)
		a.Mark, a.Kind = x.Mark, kinds()[r.IntN(6)]
		asks(t, s, a, s, x.Reply)
	}
}

// Promises 17.2 to 17.4 and 17.6 to 17.9, rules P7 and P8: a long run is what the plain shop is, request by request, step by step; what is refused changes nothing but what is kept; the units and the money add up, and everything comes to its end.
func TestLongRun(t *testing.T) {
	seen := map[api.Told]int{}
	for seed := range uint64(40) {
		r := rand.New(rand.NewPCG(seed, 17))
		rejects := r.IntN(6)
		s, why := saga.New(r.IntN(60))
		must(t, why)
		want, c := shopOf(s), came{}
		for range 300 {
			if len(s.Sagas) > 0 && r.IntN(5) < 3 {
				pick, v := r.IntN(40)-20, accept
				if r.IntN(12) < rejects {
					v = reject
				}
				told := want.pump(pick, v)
				s = pumps(t, s, pick, v, want.state(), told)
				seen[api.Told{Kind: told.Kind, Step: told.Step, Why: told.Why, Over: told.Over}]++
			} else {
				a := anyAsk(r)
				if a.Kind == api.AskCancel && len(s.Sagas) > 0 {
					a.Order = s.Sagas[r.IntN(len(s.Sagas))].Order
				}
				before, again := s, slices.ContainsFunc(s.Kept, func(x api.Kept) bool { return x.Mark == a.Mark })
				reply := want.ask(a)
				s = asks(t, s, a, want.state(), reply)
				if before.Kept = s.Kept; reply.Why != api.OK && !same(s, before) {
					t.Fatalf("%v was refused, and changes something", a)
				}
				if a.Kind == api.AskRestock && reply.Why == api.OK && !again {
					for _, x := range a.Lines {
						c[[2]int{x.Item, x.Ware}] += x.Qty
					}
				}
			}
			if r.IntN(10) == 0 {
				addsUp(t, s, c)
			}
			if r.IntN(60) == 0 {
				settles(t, s, r, c)
				asksAgain(t, s, r)
			}
		}
		settles(t, s, r, c)
	}
	if len(seen) != 10+7+7+5 { // steps of a checkout, on and back, of a cancel, of a return, with what becomes of them
		t.Error("things that were told:", len(seen), seen)
	}
}

// Promise 17.7 and rule P8: many orders, all under way, come to their ends, for some of which there are units.
func TestManyOrdersSettle(t *testing.T) {
	r := rand.New(rand.NewPCG(9, 17))
	s, why := saga.New(api.MaxOrders)
	must(t, why)
	for _, lines := range [][]api.Line{{line(1, 1, 200, 0)}, {line(2, 1, 900, 0), line(2, 2, 999, 0)}} {
		s, _ = ask(t, s, api.Ask{Kind: api.AskRestock, Lines: lines})
	}
	for id := 300; id > 0; id-- {
		k, reply, why := saga.Ask(s, api.Ask{Kind: api.AskCheckout, Order: id, Lines: []api.Line{line(1, 1, 1, 3), line(2, id%2+1, 1, int64(id))}})
		must(t, why)
		must(t, reply.Why)
		s = k
	}
	for id := 7; id < 99; id += 7 {
		s, _ = ask(t, s, api.Ask{Kind: api.AskCancel, Order: id})
	}
	n, why := saga.Pending(s)
	must(t, why)
	for range n {
		if len(s.Sagas) == 0 {
			break
		}
		k, _, why := saga.Pump(s, int(r.Int64()), accept)
		must(t, why)
		s = k
	}
	settles(t, s, r, came{{1, 1}: 200, {2, 1}: 900, {2, 2}: 999})
	done := 0
	for _, o := range s.Orders {
		if o.Status == api.StatusFulfilled {
			done++
		}
	}
	if done != 200 {
		t.Error("fulfilled:", done)
	}
}
