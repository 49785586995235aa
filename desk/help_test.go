package desk_test

import (
	"fmt"
	"math/rand/v2"
	"slices"
	"testing"

	"lading/api"
	"lading/desk"
	"lading/disk"
	"lading/saga"
)

const (
	accept = api.VerdictAccept
	reject = api.VerdictReject
)

func must(t *testing.T, why api.Errno) {
	t.Helper()
	if why != api.OK {
		t.Fatal("error", why)
	}
}

func formatted(t *testing.T, sectors, journal, limit int) (*disk.Disk, *desk.Desk) {
	t.Helper()
	d := disk.New(sectors)
	must(t, desk.Format(d, journal, limit))
	return d, opened(t, d)
}

func opened(t *testing.T, d *disk.Disk) *desk.Desk {
	t.Helper()
	k, why := desk.Open(d)
	if k == nil || why != api.OK {
		t.Fatal("Open: error", why)
	}
	return k
}

func line(item, ware int, qty, unit int64) api.Line {
	return api.Line{Item: item, Ware: ware, Qty: qty, Unit: unit}
}

func restock(lines ...api.Line) api.Act {
	return api.Act{Ask: api.Ask{Kind: api.AskRestock, Lines: lines}}
}

func checkout(order int, lines ...api.Line) api.Act {
	return api.Act{Ask: api.Ask{Kind: api.AskCheckout, Order: order, Lines: lines}}
}

func ask(kind api.AskKind, order int) api.Act {
	return api.Act{Ask: api.Ask{Kind: kind, Order: order}}
}

func marked(mark string, a api.Act) api.Act {
	a.Ask.Mark = mark
	return a
}

func pump(pick int, v api.Verdict) api.Act {
	return api.Act{Pump: true, Pick: pick, Verdict: v}
}

func sameOrder(a, b api.Order) bool {
	return a.Id == b.Id && a.Price == b.Price && a.Status == b.Status && slices.Equal(a.Lines, b.Lines)
}

// same tells whether two states are one, nil and empty lists being alike.
func same(a, b api.State) bool {
	return a.Limit == b.Limit && slices.Equal(a.Cells, b.Cells) && slices.Equal(a.Books.Pays, b.Books.Pays) && slices.Equal(a.Books.Postings, b.Books.Postings) &&
		slices.Equal(a.Ships, b.Ships) && slices.EqualFunc(a.Orders, b.Orders, sameOrder) && slices.Equal(a.Sagas, b.Sagas) && slices.Equal(a.Kept, b.Kept)
}

// capOf is the Cap of a store, by chapters 7, 8 and 11.
func capOf(sectors, journal int) int { return (sectors - 2 - journal - 16) / 4 }

// mostOf is the most that a state may come to, by chapter 18.
func mostOf(s api.State) int {
	n := 1 + len(s.Cells) + len(s.Books.Postings) + len(s.Orders) + len(s.Ships) + len(s.Sagas) + len(s.Kept)
	for _, x := range s.Sagas {
		postings := 0
		for _, p := range s.Books.Postings {
			if p.Order == x.Order {
				postings++
			}
		}
		n += max(3-postings, 0)
		if !slices.ContainsFunc(s.Ships, func(p api.Shipment) bool { return p.Order == x.Order }) {
			n++
		}
	}
	return n
}

// answer is what an act is answered.
type answer struct {
	reply api.Reply
	told  api.Told
	why   api.Errno
}

func refused(why api.Errno) answer { return answer{reply: api.Reply{Why: why}} }

// next is what the service that is plain data makes of a state by an act, with room for so many entries, and answers.
func next(s api.State, room int, a api.Act) (api.State, answer) {
	var k api.State
	var to answer
	if a.Pump {
		k, to.told, to.why = saga.Pump(s, a.Pick, a.Verdict)
		if to.why != api.OK {
			return s, to
		}
		return k, to
	}
	k, to.reply, to.why = saga.Ask(s, a.Ask)
	if !same(k, s) && mostOf(k) > room {
		return s, refused(api.ErrFull)
	}
	return k, to
}

// asked is what a desk answers an act by the call of its kind, or by Do.
func asked(k *desk.Desk, a api.Act, byDo bool) answer {
	var to answer
	switch {
	case byDo:
		to.reply, to.told, to.why = k.Do(a)
	case a.Pump:
		to.told, to.why = k.Pump(a.Pick, a.Verdict)
	default:
		to.reply, to.why = k.Ask(a.Ask)
	}
	return to
}

// does has a desk do an act, and tells whether it answers what it should.
func does(t *testing.T, k *desk.Desk, a api.Act, want answer) {
	t.Helper()
	if got := asked(k, a, false); got != want {
		t.Fatalf("%+v: %+v, and not %+v", a, got, want)
	}
}

// do has a desk do an act that must go.
func do(t *testing.T, k *desk.Desk, a api.Act) {
	t.Helper()
	if to := asked(k, a, true); to.why != api.OK || to.reply.Why != api.OK {
		t.Fatalf("%+v: %+v", a, to)
	}
}

// has holds a desk, in all calls that tell it, against the state that it should have.
func has(t *testing.T, k *desk.Desk, room int, want api.State) {
	t.Helper()
	if s := k.State(); !same(s, want) {
		t.Fatalf("State: %+v\nand not %+v", s, want)
	}
	pending, why := saga.Pending(want)
	must(t, why)
	if k.Pending() != pending || k.Room() != room-mostOf(want) {
		t.Fatal("Pending:", k.Pending(), "and not", pending, "Room:", k.Room(), "and not", room-mostOf(want))
	}
}

// lasts holds a desk, and one that is opened anew on a fork of its disk, against the state that it should have.
func lasts(t *testing.T, d *disk.Disk, k *desk.Desk, room int, want api.State) {
	t.Helper()
	has(t, k, room, want)
	has(t, opened(t, d.Fork()), room, want)
	if len(d.Unsynced()) != 0 {
		t.Fatal("unsynced:", d.Unsynced())
	}
}

// someFates are lists of n fates: of one kind, and mixed.
func someFates(r *rand.Rand, n int) [][]api.Fate {
	lists := [][]api.Fate{nil}
	for _, f := range []api.Fate{{Kind: api.FateKeep}, {Kind: api.FateTear}, {Kind: api.FateTear, Mask: 1}, {Kind: api.FateTear, Mask: 0xfe}, {Kind: api.FateTear, Mask: 0x7f}, {Kind: api.FateTear, Mask: 0xff}} {
		lists = append(lists, slices.Repeat([]api.Fate{f}, n))
	}
	for range 4 {
		lists = append(lists, anyFates(r, n))
	}
	return lists
}

func anyFates(r *rand.Rand, n int) []api.Fate {
	var l []api.Fate
	for range n {
		l = append(l, api.Fate{Kind: api.FateKind(r.IntN(int(api.FateCount))), Mask: uint8(r.Uint32())})
	}
	return l
}

// anyLines are some of few cells, mostly lines that may be, of an order or of a restock.
func anyLines(r *rand.Rand, unit int64) []api.Line {
	var l []api.Line
	for range r.IntN(3) + 1 {
		l = append(l, line(r.IntN(2)+1, r.IntN(2)+1, r.Int64N(12-9*unit)+1, unit*r.Int64N(400)))
	}
	switch r.IntN(24) {
	case 0:
		l[0].Qty = 0
	case 1:
		l = nil
	case 2:
		l[0].Item = api.MaxItems + 1
	case 3:
		l = slices.Repeat(l[:1], api.MaxLines+1)
	case 4:
		l[0].Unit += unit - 1
	}
	return l
}

// anyAct is a random act, mostly of few orders and marks.
func anyAct(r *rand.Rand) api.Act {
	if r.IntN(5) < 3 {
		v := accept
		if r.IntN(6) == 0 {
			v = reject
		}
		if r.IntN(40) == 0 {
			v = api.VerdictCount
		}
		return pump(r.IntN(40)-20, v)
	}
	a := api.Ask{Kind: api.AskKind(r.IntN(int(api.AskCount) + 1)), Order: r.IntN(25) + 1}
	if r.IntN(3) == 0 {
		a.Kind = api.AskCheckout
	}
	a.Lines = anyLines(r, 1)
	if a.Kind == api.AskRestock || a.Kind == api.AskFree {
		a.Lines = anyLines(r, 0)
	}
	if a.Kind == api.AskFree && r.IntN(4) > 0 {
		a.Lines = a.Lines[:min(len(a.Lines), 1)]
	}
	if r.IntN(4) == 0 {
		a.Mark = fmt.Sprint("m", r.IntN(60))
	}
	return api.Act{Ask: a}
}

// busy are acts by which a service has an order of each kind of saga, forwards and back, and one of each end.
func busy() []api.Act {
	acts := []api.Act{restock(line(1, 1, 90, 0), line(2, 3, 90, 0))}
	add := func(l ...api.Act) { acts = append(acts, l...) }
	steps := func(n int) {
		for range n {
			add(pump(-1, accept))
		}
	}
	for id := 1; id <= 4; id++ { // two that are fulfilled, one that comes back, one that is coming back
		add(checkout(id, line(1, 1, 2, 300)))
		steps(5)
	}
	add(ask(api.AskReturn, 3))
	steps(3)
	add(ask(api.AskReturn, 4))
	steps(1)
	add(checkout(5, line(2, 3, 1, 7)), ask(api.AskCancel, 5))
	add(checkout(6, line(2, 3, 99, 7)), pump(-1, accept)) // there are not so many: rejected
	add(checkout(7, line(2, 3, 1, 7), line(1, 1, 2, 9)))
	steps(4)
	add(ask(api.AskCancel, 7))
	add(checkout(8, line(2, 3, 1, 7)))
	steps(3)
	add(pump(-1, reject))
	add(checkout(9, line(2, 3, 1, 7)))
	steps(2)
	add(marked("kept", checkout(10, line(1, 1, 1, 11))))
	return acts
}
