package desk_test

import (
	"math"
	"math/rand/v2"
	"testing"

	"lading/api"
	"lading/desk"
)

// Example of chapter 19.
func TestExample(t *testing.T) {
	d, k := formatted(t, 120, 4, 9)
	if k.Room() != 23 || k.Pending() != 0 {
		t.Error("Room:", k.Room(), "Pending:", k.Pending())
	}
	does(t, k, restock(line(1, 1, 5, 0)), answer{})
	does(t, k, checkout(1, line(1, 1, 2, 300)), answer{reply: api.Reply{Status: api.StatusOpen, Amount: 600}})
	if k.Room() != 24-8 || k.Pending() != 5 {
		t.Error("Room:", k.Room(), "Pending:", k.Pending())
	}
	if k = opened(t, d); k.Pending() != 5 {
		t.Error("opened anew: Pending:", k.Pending())
	}
	for i, step := range []api.StepKind{api.StepReserve, api.StepAuthorise, api.StepBook, api.StepCapture, api.StepSend} {
		does(t, k, pump(0, accept), answer{told: api.Told{Order: 1, Kind: api.SagaCheckout, Step: step, Over: i == 4}})
	}
	does(t, k, ask(api.AskStatus, 1), answer{reply: api.Reply{Status: api.StatusFulfilled, Amount: 600}})
}

// Examples 1 to 4 of the whole.
func TestExamplesOfTheWhole(t *testing.T) {
	begin := []api.Act{restock(line(1, 1, 5, 0)), checkout(1, line(1, 1, 2, 300))}
	on, back := pump(0, accept), pump(0, reject)
	for _, c := range []struct {
		acts []api.Act
		want api.Status
		cell api.Cell
		paid int64
	}{
		{[]api.Act{on, on, on, on, on}, api.StatusFulfilled, api.Cell{Free: 3, Out: 2}, 600},
		{[]api.Act{on, on, on, on, back, on, on, on, on}, api.StatusRejected, api.Cell{Free: 5}, 0},
		{[]api.Act{on, on, ask(api.AskCancel, 1), on, on}, api.StatusCancelled, api.Cell{Free: 5}, 0},
		{[]api.Act{on, on, on, on, on, ask(api.AskReturn, 1), on, on, on}, api.StatusReturned, api.Cell{Free: 5}, 0},
	} {
		d, k := formatted(t, 120, 4, 9)
		for _, a := range append(begin, c.acts...) {
			do(t, k, a)
		}
		s := opened(t, d).State()
		c.cell.Item, c.cell.Ware, c.cell.All = 1, 1, 5
		if s.Orders[0].Status != c.want || s.Cells[0] != c.cell || len(s.Sagas) != 0 {
			t.Errorf("%+v", s)
		}
		paid := int64(0)
		for _, p := range s.Books.Pays {
			paid += p.Captured - p.Refunded + p.Open
		}
		if paid != c.paid {
			t.Error("paid:", paid, "and not", c.paid)
		}
	}
}

// Promises 19.2, 19.3 and 19.5, rule P5: on disks of several sizes, reply by reply, state by state, a desk is the service that is plain data, but for requests for which there is no room; with checkpoints and new openings among the acts.
func TestBesidePlainData(t *testing.T) {
	full, kinds := 0, map[[2]int]int{}
	for seed := range uint64(40) {
		r := rand.New(rand.NewPCG(seed, 19))
		sectors, journal, limit := []int{54, 80, 120, 200, 400, 1024}[seed%6], 4+r.IntN(9), r.IntN(30)
		room, want := capOf(sectors, journal), api.State{Limit: limit}
		d, k := formatted(t, sectors, journal, limit)
		for range 220 {
			a := anyAct(r)
			s, to := next(want, room, a)
			if got := asked(k, a, r.IntN(2) == 0); got != to {
				t.Fatalf("%+v: %+v, and not %+v", a, got, to)
			}
			if a.Pump {
				kinds[[2]int{1, int(to.told.Step)}]++
			} else {
				kinds[[2]int{0, int(a.Ask.Kind)}]++
			}
			if to == refused(api.ErrFull) && len(want.Orders) < limit {
				full++
			}
			want = s
			has(t, k, room, want)
			switch r.IntN(25) {
			case 0:
				must(t, k.Checkpoint())
				lasts(t, d, k, room, want)
			case 1:
				k = opened(t, d)
				lasts(t, d, k, room, want)
			}
		}
		lasts(t, d, k, room, want)
	}
	if full < 40 || len(kinds) != 8+12 { // kinds of requests, AskNone and AskCount among them; steps, and none
		t.Error("without room:", full, "kinds:", len(kinds), kinds)
	}
}

// Promise 19.2: what is refused, in the order in which the chapters name it, and what is answered beside it; nothing is changed by it.
func TestRefused(t *testing.T) {
	d, k := formatted(t, 120, 4, 9)
	for _, v := range []api.Verdict{accept, reject} {
		does(t, k, pump(0, v), answer{why: api.ErrUnknown})
	}
	for _, v := range []api.Verdict{api.VerdictCount, 255} {
		does(t, k, pump(0, v), answer{why: api.ErrType}) // ahead of ErrUnknown
	}
	do(t, k, restock(line(1, 1, 5, 0)))
	do(t, k, checkout(1, line(1, 1, 2, 300)))
	want := k.State()
	does(t, k, pump(0, api.VerdictCount), answer{why: api.ErrType})
	for _, kind := range []api.AskKind{api.AskNone, api.AskCount, 255} {
		does(t, k, marked("m", ask(kind, 1)), refused(api.ErrType))
	}
	long := string(make([]byte, api.MaxMark+1))
	does(t, k, marked(long, ask(api.AskStatus, 1)), refused(api.ErrLong))
	does(t, k, marked(long, ask(api.AskNone, 1)), refused(api.ErrType))
	does(t, k, checkout(0, line(1, 1, 1, 1)), refused(api.ErrRange))
	does(t, k, checkout(1, line(1, 1, 1, 1)), refused(api.ErrTwice))
	does(t, k, checkout(2), refused(api.ErrRange))
	does(t, k, ask(api.AskCancel, 2), refused(api.ErrUnknown))
	does(t, k, ask(api.AskReturn, 1), refused(api.ErrState))
	does(t, k, restock(), refused(api.ErrRange))
	lasts(t, d, k, 24, want)
	does(t, k, marked("m", checkout(2)), refused(api.ErrRange)) // that is kept
	want.Kept = []api.Kept{{Mark: "m", Reply: api.Reply{Why: api.ErrRange}}}
	lasts(t, d, k, 24, want)
	does(t, k, marked("m", checkout(2, line(1, 1, 1, 1))), refused(api.ErrRange))
	lasts(t, d, k, 24, want)
}

// Promise 19.2: marks of any bytes, up to MaxMark of them, are kept on the disk.
func TestMarks(t *testing.T) {
	d, k := formatted(t, 400, 4, 9)
	want := k.State()
	for i, mark := range []string{"\x00", "\x00\x00", "a", "a\x00", "a\xff", "\xff", string(make([]byte, api.MaxMark)), "\x01\xff\x00"} {
		a := marked(mark, checkout(i+1, line(1, 1, 1, 5)))
		s, to := next(want, capOf(400, 4), a)
		must(t, to.reply.Why)
		does(t, k, a, to)
		want = s
		lasts(t, d, k, capOf(400, 4), want)
		does(t, opened(t, d), a, to)
	}
}

// Promise 19.2: picks at their ends.
func TestPicks(t *testing.T) {
	_, k := formatted(t, 400, 4, 9)
	do(t, k, restock(line(1, 1, 9, 0)))
	for id := range 3 {
		do(t, k, checkout(id+1, line(1, 1, 1, 5)))
	}
	want := k.State()
	for _, pick := range []int{math.MinInt, -4, -3, -1, 0, 2, 3, math.MaxInt} {
		s, to := next(want, 99, pump(pick, accept))
		must(t, to.told.Why)
		does(t, k, pump(pick, accept), to)
		has(t, k, capOf(400, 4), s)
		want = s
	}
}

// Promise 19.3: Do is a Pump or an Ask by a.Pump alone, whatever else an act has.
func TestDo(t *testing.T) {
	_, k := formatted(t, 120, 4, 9)
	a := checkout(1, line(1, 1, 2, 300))
	a.Pick, a.Verdict = 7, 99
	if r, told, why := k.Do(a); r.Amount != 600 || told != (api.Told{}) || why != api.OK {
		t.Error("Do of a request:", r, told, why)
	}
	a.Verdict, a.Pump = accept, true
	if r, told, why := k.Do(a); r != (api.Reply{}) || told.Step != api.StepReserve || told.Why != api.ErrStock || why != api.OK {
		t.Error("Do of a pump:", r, told, why)
	}
	if r, told, why := k.Do(a); r != (api.Reply{}) || told != (api.Told{}) || why != api.ErrUnknown {
		t.Error("Do of a pump without a saga:", r, told, why)
	}
}

// Promise 19.4: a nil desk.
func TestNil(t *testing.T) {
	var k *desk.Desk
	for _, a := range append(busy(), api.Act{}, pump(0, 99)) {
		for _, byDo := range []bool{false, true} {
			if to := asked(k, a, byDo); to != (answer{why: api.ErrNil}) {
				t.Fatalf("%+v of nil: %+v", a, to)
			}
		}
	}
	if why := k.Checkpoint(); why != api.ErrNil || !same(k.State(), api.State{}) || k.Pending() != 0 || k.Room() != 0 {
		t.Error("nil:", why, k.State(), k.Pending(), k.Room())
	}
}

// Rule P4: two desks on two disks have nothing to do with one another; nor has one on a fork.
func TestTwoDesks(t *testing.T) {
	r := rand.New(rand.NewPCG(19, 6))
	d1, k1 := formatted(t, 200, 4, 9)
	d2, k2 := formatted(t, 120, 7, 5)
	d3 := d1.Fork()
	k3 := opened(t, d3)
	desks := []*desk.Desk{k1, k2, k3}
	rooms := []int{capOf(200, 4), capOf(120, 7), capOf(200, 4)}
	states := []api.State{{Limit: 9}, {Limit: 5}, {Limit: 9}}
	for range 400 {
		i, a := r.IntN(3), anyAct(r)
		s, to := next(states[i], rooms[i], a)
		does(t, desks[i], a, to)
		states[i] = s
		for n, k := range desks {
			has(t, k, rooms[n], states[n])
		}
	}
	must(t, d1.Cut())
	lasts(t, d2, k2, rooms[1], states[1])
	lasts(t, d3, k3, rooms[2], states[2])
	do(t, k3, restock(line(1, 1, 1, 0)))
	must(t, d1.Restore(nil))
	lasts(t, d1, opened(t, d1), rooms[0], states[0])
}
