package desk_test

import (
	"fmt"
	"math/rand/v2"
	"testing"

	"lading/api"
	"lading/desk"
	"lading/disk"
	"lading/saga"
)

// atEnd tells promise 17.7 of a desk: there is no saga, every order is at its end, nothing is held or open, and what is out is what the fulfilled orders have.
func atEnd(t *testing.T, k *desk.Desk) {
	t.Helper()
	s := k.State()
	must(t, saga.Check(s))
	if len(s.Sagas) != 0 || k.Pending() != 0 {
		t.Fatal("sagas are left:", s.Sagas, k.Pending())
	}
	out := map[[2]int]int64{}
	for _, o := range s.Orders {
		switch o.Status {
		case api.StatusFulfilled:
			for _, x := range o.Lines {
				out[[2]int{x.Item, x.Ware}] += x.Qty
			}
		case api.StatusRejected, api.StatusCancelled, api.StatusReturned:
		default:
			t.Fatal("not at its end:", o)
		}
	}
	for _, c := range s.Cells {
		if c.Held != 0 || c.Out != out[[2]int{c.Item, c.Ware}] || c.Free+c.Out != c.All {
			t.Fatal("units:", c)
		}
	}
	for _, p := range s.Books.Pays {
		if p.Open != 0 {
			t.Fatal("open:", p)
		}
	}
}

// settles has all that is under way come to its end, in no more accepted pumps than are pending.
func settles(t *testing.T, k *desk.Desk, r *rand.Rand) {
	t.Helper()
	for n := k.Pending(); n > 0 && len(k.State().Sagas) > 0; n-- {
		do(t, k, pump(int(r.Int64()), accept))
	}
	atEnd(t, k)
}

// Example 7 of the whole, promises 19.2, 19.3 and 19.7, rules P8 and P9: on each small disk checkouts are taken while there is room for all that may come of them; those behind are refused, and change nothing; no pump is refused, whatever cards and carriers say, and all that was admitted comes to its end.
func TestNearlyFull(t *testing.T) {
	for sectors := 38; sectors < 130; sectors += 3 {
		for _, rejects := range []int{0, 3, 10} {
			r := rand.New(rand.NewPCG(uint64(sectors), uint64(rejects)))
			d, k := formatted(t, sectors, 4, 50)
			room := capOf(sectors, 4)
			do(t, k, restock(line(1, 1, 50, 0)))
			taken := 0
			for id := 1; id <= 20; id++ {
				want := k.State()
				to := answer{reply: api.Reply{Status: api.StatusOpen, Amount: 5}}
				if room-mostOf(want) < 6 { // an order, a saga, a shipment, three postings
					to = refused(api.ErrFull)
				} else {
					taken++
				}
				does(t, k, checkout(id, line(1, 1, 1, 5)), to)
				if to.reply.Why != api.OK {
					lasts(t, d, k, room, want)
				}
			}
			if taken != (room-2)/6 {
				t.Fatal("taken:", taken, "of", (room-2)/6)
			}
			for range 200 {
				v := accept
				if r.IntN(12) < rejects {
					v = reject
				}
				if _, why := k.Pump(int(r.Int64()), v); why != api.OK && why != api.ErrUnknown {
					t.Fatal("Pump: error", why)
				}
				has(t, k, room, k.State())
			}
			settles(t, k, r)
			lasts(t, d, k, room, k.State())
		}
	}
}

// filled is a desk that has no room for an entry more, with a saga under way and an order that is fulfilled.
func filled(t *testing.T) (*disk.Disk, *desk.Desk) {
	t.Helper()
	d, k := formatted(t, 140, 4, 50)
	do(t, k, restock(line(1, 1, 50, 0)))
	do(t, k, checkout(1, line(1, 1, 1, 5)))
	for range 5 {
		do(t, k, pump(0, accept))
	}
	do(t, k, checkout(2, line(1, 1, 1, 5)))
	do(t, k, pump(0, accept))
	for i := range k.Room() {
		do(t, k, restock(line(2, i+1, 1, 0)))
	}
	if k.Room() != 0 {
		t.Fatal("Room:", k.Room())
	}
	return d, k
}

// Promises 19.2 and 19.7: without room every request that would have an entry more is refused, with a mark too, which is not kept then; what has none more is done.
func TestWithoutRoom(t *testing.T) {
	d, k := filled(t)
	want := k.State()
	for _, a := range []api.Act{
		checkout(3, line(1, 1, 1, 5)),
		marked("m", checkout(3, line(1, 1, 1, 5))),
		ask(api.AskReturn, 1),
		restock(line(3, 1, 1, 0)),
		restock(line(1, 1, 1, 0), line(3, 1, 1, 0)),
		marked("m", restock(line(1, 1, 1, 0))),
		marked("m", ask(api.AskCancel, 2)),
		marked("m", ask(api.AskStatus, 1)),
		marked("m", ask(api.AskCancel, 99)),
	} {
		for _, byDo := range []bool{false, true} {
			if to := asked(k, a, byDo); to != refused(api.ErrFull) {
				t.Errorf("%+v without room: %+v", a, to)
			}
			lasts(t, d, k, capOf(140, 4), want)
		}
	}
	for _, a := range []api.Act{
		ask(api.AskStatus, 1),
		{Ask: api.Ask{Kind: api.AskFree, Lines: []api.Line{{Item: 1, Ware: 1}}}},
		ask(api.AskReturn, 2),
		checkout(1, line(1, 1, 1, 5)),
		restock(line(1, 1, 1, 0), line(2, 1, 1, 0)),
		ask(api.AskCancel, 2),
		pump(0, reject),
		pump(0, accept),
	} {
		s, to := next(want, capOf(140, 4), a)
		if to == refused(api.ErrFull) {
			t.Fatalf("%+v: no room", a)
		}
		does(t, k, a, to)
		want = s
		lasts(t, d, k, capOf(140, 4), want)
	}
	atEnd(t, k)
}

// Promise 19.7, rule P9: without room a saga that is admitted goes its longest way: captured, then all the way back.
func TestLongestWay(t *testing.T) {
	d, k := filled(t)
	for _, v := range []api.Verdict{accept, accept, accept, reject, reject, accept, reject, accept, accept, accept} {
		if _, why := k.Pump(0, v); why != api.OK || k.Room() < 0 {
			t.Fatal("Pump: error", why, "Room:", k.Room())
		}
	}
	atEnd(t, k)
	lasts(t, d, k, capOf(140, 4), k.State())
	if k.Room() != 1 { // the saga's own entry
		t.Error("Room:", k.Room())
	}
}

// Promises 19.2 and 19.7: the greatest requests that there can be need no more sectors than the least journal has.
func TestGreatRequests(t *testing.T) {
	d, k := formatted(t, api.MaxSectors, api.MinJournal, api.MaxOrders)
	room := capOf(api.MaxSectors, api.MinJournal)
	want := k.State()
	act := func(a api.Act) {
		t.Helper()
		s, to := next(want, room, a)
		does(t, k, a, to)
		want = s
		has(t, k, room, want)
	}
	var units, lines []api.Line
	for i := range api.MaxLines {
		units = append(units, line(api.MaxItems-i, api.MaxItems, api.MaxQty, 0))
		lines = append(lines, line(api.MaxItems-i, api.MaxItems, api.MaxQty/16, api.MaxUnit/64))
	}
	act(restock(units...))
	for i := 0; want.Orders == nil || len(want.Sagas) == i; i++ { // till there is no room for one more
		mark := fmt.Sprintf("%0*d", api.MaxMark, i)
		act(marked(mark, checkout(api.MaxOrders-i, lines...)))
	}
	if len(want.Sagas) != (room-1-16)/7 {
		t.Fatal("sagas:", len(want.Sagas), "room:", k.Room())
	}
	lasts(t, d, k, room, want)
	for len(want.Sagas) > 0 { // the first one always, so that all others change their places
		act(pump(0, accept))
	}
	lasts(t, d, k, room, want)
	atEnd(t, k)
}
