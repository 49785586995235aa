package desk_test

import (
	"fmt"
	"math/rand/v2"
	"testing"

	"lading/api"
	"lading/desk"
	"lading/disk"
)

// isDone tells that a desk on which the power went answers ErrState ahead of all else, and has the state from ahead.
func isDone(t *testing.T, k *desk.Desk, room int, want api.State) {
	t.Helper()
	acts := append(busy(), marked("kept", ask(api.AskStatus, 1)), pump(0, 99), ask(api.AskNone, 1), marked(string(make([]byte, 99)), ask(api.AskFree, 1)))
	for _, a := range acts {
		for _, byDo := range []bool{false, true} {
			if to := asked(k, a, byDo); to != (answer{why: api.ErrState}) {
				t.Fatalf("%+v behind a power cut: %+v", a, to)
			}
		}
	}
	if why := k.Checkpoint(); why != api.ErrState {
		t.Fatal("Checkpoint behind a power cut: error", why)
	}
	has(t, k, room, want)
}

// deed is an act, or a checkpoint, of a desk that stands as start does, by which next is to be the state.
type deed struct {
	name   string
	start  *disk.Disk
	before api.State
	next   api.State
	act    api.Act
	to     answer
	point  bool // it is a checkpoint
}

func (c deed) do(k *desk.Desk) answer {
	if c.point {
		return answer{why: k.Checkpoint()}
	}
	return asked(k, c.act, false)
}

const (
	deedSectors = 400
	deedJournal = 4
)

// deeds are acts of every kind that writes something, with and without a checkpoint ahead, and checkpoints.
func deeds(t *testing.T) []deed {
	t.Helper()
	room := capOf(deedSectors, deedJournal)
	start, k := formatted(t, deedSectors, deedJournal, 40)
	for _, a := range busy() {
		do(t, k, a)
	}
	acts := []api.Act{
		restock(line(1, 1, 5, 0), line(7, 7, 1, 0)),
		marked("m", restock(line(1, 1, 5, 0))),
		marked("m", checkout(20, line(1, 1, 2, 300))),
		marked("m", ask(api.AskCancel, 9)),
		marked("m", ask(api.AskCancel, 10)),
		marked("m", ask(api.AskReturn, 1)),
		marked("m", ask(api.AskStatus, 1)),
		marked("m", ask(api.AskStatus, 99)),
	}
	for pick := range k.State().Sagas {
		acts = append(acts, pump(pick, accept))
	}
	acts = append(acts, pump(-2, reject))
	var l []deed
	for used := range 3 {
		k = opened(t, start)
		must(t, k.Checkpoint())
		for i := range used * 2 {
			do(t, k, restock(line(1, 1, int64(i+1), 0)))
		}
		before := k.State()
		for _, a := range acts {
			s, to := next(before, room, a)
			l = append(l, deed{fmt.Sprintf("%+v behind %d", a, used*2), start.Fork(), before, s, a, to, false})
		}
		l = append(l, deed{fmt.Sprint("a checkpoint behind ", used*2), start.Fork(), before, before, api.Act{}, answer{}, true})
	}
	return l
}

// Examples 5 and 6 of the whole, promises 19.2, 19.5 and 19.6, rule P6: the power goes at each write within Ask, Pump and Checkpoint, with fates of every kind: ErrDown, and ErrState behind it; a desk that is opened anew has the state from ahead, or the one behind; the same request with its mark is answered as it was, or done now; and it goes on to its end.
func TestCutWithin(t *testing.T) {
	r := rand.New(rand.NewPCG(19, 7))
	room := capOf(deedSectors, deedJournal)
	for _, c := range deeds(t) {
		whole := c.start.Fork()
		k := opened(t, whole)
		if to := c.do(k); to != c.to {
			t.Fatalf("%s: %+v, and not %+v", c.name, to, c.to)
		}
		lasts(t, whole, k, room, c.next)
		n := whole.Writes() - c.start.Writes()
		if n == 0 {
			t.Fatal(c.name, "writes nothing")
		}
		for count := range n {
			for i, fates := range someFates(r, n) {
				d := c.start.Fork()
				k := opened(t, d)
				must(t, d.Arm(count))
				if to := c.do(k); to != (answer{why: api.ErrDown}) {
					t.Fatalf("%s with power for %d writes: %+v", c.name, count, to)
				}
				if i == 0 {
					isDone(t, k, room, c.before)
				}
				must(t, d.Restore(fates))
				if i == 1 {
					isDone(t, k, room, c.before)
				}
				c.goesOn(t, d, room, r, i < 3 && count < 2)
			}
		}
	}
}

// goesOn tells that the desk of a disk has the state from ahead of a deed, or the one behind it, and goes on from there.
func (c deed) goesOn(t *testing.T, d *disk.Disk, room int, r *rand.Rand, toItsEnd bool) {
	t.Helper()
	k := opened(t, d)
	s := k.State()
	if !same(s, c.before) && !same(s, c.next) {
		t.Fatalf("%s, cut: %+v", c.name, s)
	}
	lasts(t, d, k, room, s)
	if c.act.Ask.Mark != "" {
		if to := c.do(k); to != c.to {
			t.Fatalf("%s, asked once more: %+v, and not %+v", c.name, to, c.to)
		}
		lasts(t, d, k, room, c.next)
	}
	if toItsEnd {
		settles(t, k, r)
		must(t, k.Checkpoint())
		lasts(t, d, k, room, k.State())
	}
}

// Promise 19.6: the batch of an act was written, and not synced: with each of the fates of its sector the act is there as a whole, or not at all; both happen.
func TestFatesOfAnAct(t *testing.T) {
	r := rand.New(rand.NewPCG(19, 8))
	room := capOf(deedSectors, deedJournal)
	for _, c := range deeds(t) {
		whole := c.start.Fork()
		c.do(opened(t, whole))
		var changed []int
		var news [][]byte
		for i := range whole.Sectors() {
			was, why := c.start.Read(i)
			must(t, why)
			is, why := whole.Read(i)
			must(t, why)
			if string(was) != string(is) {
				changed, news = append(changed, i), append(news, is)
			}
		}
		if c.point || len(changed) != 1 {
			continue // it made a checkpoint
		}
		there, masks := 0, append(r.Perm(256)[:30], 0, 1, 0xfe, 0xff)
		for _, mask := range masks {
			d := c.start.Fork()
			must(t, d.Write(changed[0], news[0]))
			must(t, d.Cut())
			must(t, d.Restore([]api.Fate{{Kind: api.FateTear, Mask: uint8(mask)}}))
			if same(opened(t, d.Fork()).State(), c.next) {
				there++
			}
			c.goesOn(t, d, room, r, false)
		}
		if there == 0 || there == len(masks) {
			t.Error(c.name, "is there with", there, "of", len(masks), "masks")
		}
	}
}

// Promise 19.2: the power has gone ahead of a call: what writes nothing is answered; what writes is ErrDown, and all is ErrState then.
func TestWithoutPower(t *testing.T) {
	for i, a := range []api.Act{restock(line(1, 1, 5, 0)), pump(0, accept), marked("m", ask(api.AskStatus, 1)), {}} {
		d, k := formatted(t, 120, 4, 9)
		do(t, k, restock(line(1, 1, 5, 0)))
		do(t, k, checkout(1, line(1, 1, 2, 300)))
		want := k.State()
		must(t, d.Cut())
		does(t, k, ask(api.AskStatus, 1), answer{reply: api.Reply{Status: api.StatusOpen, Amount: 600}})
		does(t, k, ask(api.AskCancel, 2), refused(api.ErrUnknown))
		does(t, k, pump(0, 99), answer{why: api.ErrType})
		has(t, k, 24, want)
		down := deed{act: a, point: i == 3}
		if to := down.do(k); to != (answer{why: api.ErrDown}) {
			t.Fatalf("%+v without power: %+v", a, to)
		}
		isDone(t, k, 24, want)
		must(t, d.Restore(nil))
		isDone(t, k, 24, want)
		lasts(t, d, opened(t, d), 24, want)
	}
}

// Promise 19.2: ErrState is ahead of a reply for want of room.
func TestWithoutPowerAndRoom(t *testing.T) {
	d, k := filled(t)
	want := k.State()
	must(t, d.Cut())
	does(t, k, checkout(3, line(1, 1, 1, 5)), refused(api.ErrFull)) // that writes nothing
	does(t, k, restock(line(1, 1, 1, 0)), answer{why: api.ErrDown})
	isDone(t, k, capOf(140, 4), want)
	must(t, d.Restore(nil))
	isDone(t, k, capOf(140, 4), want)
	lasts(t, d, opened(t, d), capOf(140, 4), want)
}

// Promises 19.5, 19.6 and 19.8: the power goes and is back between two calls: the desk goes on, as one that is opened anew does.
func TestCutBetween(t *testing.T) {
	r := rand.New(rand.NewPCG(19, 9))
	d, k := formatted(t, 200, 4, 20)
	room, want := capOf(200, 4), api.State{Limit: 20}
	for range 300 {
		a := anyAct(r)
		s, to := next(want, room, a)
		does(t, k, a, to)
		want = s
		must(t, d.Cut())
		must(t, d.Restore(anyFates(r, 4)))
		if r.IntN(2) == 0 {
			k = opened(t, d)
		}
		lasts(t, d, k, room, want)
	}
}

// Promises 19.6 to 19.8, rules P6, P8 and P9: the power goes again and again, within whatever is done, with any fates; each time the state is the one from ahead or the one behind, and in the end all that was admitted comes to its end.
func TestCutAgainAndAgain(t *testing.T) {
	ahead, behind := 0, 0
	for seed := range uint64(25) {
		r := rand.New(rand.NewPCG(seed, 20))
		sectors, journal := 60+r.IntN(300), 4+r.IntN(4)
		d, k := formatted(t, sectors, journal, 25)
		room, want := capOf(sectors, journal), api.State{Limit: 25}
		for range 150 {
			if r.IntN(3) > 0 {
				must(t, d.Arm(r.IntN(14)))
			}
			a := anyAct(r)
			s, to := next(want, room, a)
			if r.IntN(12) == 0 {
				s = want
				to = answer{why: k.Checkpoint()}
			} else if got := asked(k, a, true); got.why == api.ErrDown {
				to = got
			} else if got != to {
				t.Fatalf("%+v: %+v, and not %+v", a, got, to)
			}
			if to.why != api.ErrDown {
				want = s
				has(t, k, room, want)
				continue
			}
			if to != (answer{why: api.ErrDown}) {
				t.Fatalf("%+v: %+v", a, to)
			}
			must(t, d.Restore(anyFates(r, 20)))
			k = opened(t, d)
			switch now := k.State(); {
			case same(now, s):
				behind++
				want = s
			case same(now, want):
				ahead++
			default:
				t.Fatalf("%+v, cut: %+v", a, now)
			}
			lasts(t, d, k, room, want)
		}
		must(t, d.Arm(-1))
		settles(t, k, r)
		lasts(t, d, k, room, k.State())
	}
	if ahead < 30 || behind < 30 {
		t.Error("ahead:", ahead, "behind:", behind)
	}
}

// Promise 19.8: with power cuts between the calls, and within them, it takes just as many accepted pumps as are pending till everything is at its end; where none is refused for want of units.
func TestPendingWithCuts(t *testing.T) {
	r := rand.New(rand.NewPCG(19, 10))
	for range 12 {
		d, k := formatted(t, 400, 4, 40)
		for _, a := range busy() {
			do(t, k, a)
		}
		left := k.Pending()
		for left > 0 {
			if r.IntN(3) == 0 {
				must(t, d.Arm(r.IntN(3)))
			}
			told, why := k.Pump(int(r.Int64()), accept)
			if why == api.ErrDown {
				must(t, d.Restore(anyFates(r, 20)))
				k = opened(t, d)
				if k.Pending() != left && k.Pending() != left-1 {
					t.Fatal("Pending:", k.Pending(), "and it was", left)
				}
				left = k.Pending()
				continue
			}
			must(t, why)
			must(t, told.Why)
			if left--; k.Pending() != left {
				t.Fatal("Pending:", k.Pending(), "and not", left)
			}
		}
		must(t, d.Arm(-1))
		atEnd(t, k)
		lasts(t, d, k, capOf(400, 4), k.State())
	}
}
