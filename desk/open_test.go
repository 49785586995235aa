package desk_test

import (
	"slices"
	"testing"

	"lading/api"
	"lading/desk"
	"lading/disk"
	"lading/image"
	"lading/kv"
)

// storing is a disk whose store has these entries, whatever they are.
func storing(t *testing.T, sectors, journal int, l []api.Pair) *disk.Disk {
	t.Helper()
	d := disk.New(sectors)
	must(t, kv.Format(d, journal))
	s, why := kv.Open(d)
	must(t, why)
	for _, p := range l {
		tx, why := s.Begin()
		must(t, why)
		must(t, s.Put(tx, p.Key, p.Val))
		must(t, s.Commit(tx))
	}
	return d
}

// isNone tells that there is no desk on a disk, and why.
func isNone(t *testing.T, d *disk.Disk, want api.Errno) {
	t.Helper()
	if k, why := desk.Open(d); k != nil || why != want {
		t.Fatal("Open: a desk:", k != nil, "error", why, "and not", want)
	}
}

// busyState is the state behind the acts of busy.
func busyState(t *testing.T) api.State {
	t.Helper()
	s := api.State{Limit: 40}
	for _, a := range busy() {
		var to answer
		if s, to = next(s, 1000, a); to.why != api.OK || to.reply.Why != api.OK {
			t.Fatalf("%+v: %+v", a, to)
		}
	}
	return s
}

func entriesOf(t *testing.T, s api.State) []api.Pair {
	t.Helper()
	l, why := image.Entries(s)
	must(t, why)
	return l
}

// Promise 19.1: the errors of the store: no disk, no power, nothing that was made new.
func TestOpenOfNoStore(t *testing.T) {
	isNone(t, nil, api.ErrNil)
	for _, sectors := range []int{1, 2, 38, 120, api.MaxSectors} {
		d := disk.New(sectors)
		isNone(t, d, api.ErrCode)
		must(t, d.Cut())
		isNone(t, d, api.ErrDown)
	}
	d, k := formatted(t, 120, 4, 9)
	do(t, k, restock(line(1, 1, 5, 0)))
	must(t, d.Cut())
	isNone(t, d, api.ErrDown)
	must(t, d.Restore(nil))
	for i := range 2 {
		must(t, d.Write(i, nil))
	}
	isNone(t, d, api.ErrCode)
}

// Promise 19.1: ErrCode of a store whose entries are not those of a right state: nothing, something else, an entry too many, one too few, another value.
func TestOpenOfWrongEntries(t *testing.T) {
	isNone(t, storing(t, 120, 4, nil), api.ErrCode)
	isNone(t, storing(t, 120, 4, []api.Pair{{Key: "a", Val: "1"}}), api.ErrCode)
	right := entriesOf(t, busyState(t))
	opened(t, storing(t, 400, 4, right))
	for _, key := range []string{"", "\x00", "\xff", right[0].Key + "\x00"} {
		isNone(t, storing(t, 400, 4, append(slices.Clone(right), api.Pair{Key: key, Val: "1"})), api.ErrCode)
	}
	wrong := 0
	for i := range right {
		less := slices.Delete(slices.Clone(right), i, i+1)
		other := slices.Clone(right)
		other[i].Val += "\x00"
		isNone(t, storing(t, 400, 4, other), api.ErrCode)
		d := storing(t, 400, 4, less)
		if s, why := image.State(less); why != api.OK {
			wrong++
			isNone(t, d, api.ErrCode)
		} else {
			has(t, opened(t, d), capOf(400, 4), s)
		}
	}
	if wrong < len(right)/2 {
		t.Error("wrong with an entry less:", wrong, "of", len(right))
	}
}

// Promise 19.1: what is not the entries of a right state stays on the disk as it is.
func TestOpenChangesNothing(t *testing.T) {
	for _, d := range []*disk.Disk{disk.New(120), storing(t, 120, 4, nil), storing(t, 400, 4, entriesOf(t, busyState(t)))} {
		before := d.Writes()
		desk.Open(d)
		if d.Writes() != before || len(d.Unsynced()) != 0 {
			t.Error("Open writes")
		}
	}
}

// Promises 19.1 and 19.5: entries of a right state make a desk, whoever wrote them; it goes on from there.
func TestOpenOfRightEntries(t *testing.T) {
	want := busyState(t)
	d := storing(t, 400, 4, entriesOf(t, want))
	k := opened(t, d)
	lasts(t, d, k, capOf(400, 4), want)
	for k.Pending() > 0 {
		s, to := next(want, capOf(400, 4), pump(1, accept))
		does(t, k, pump(1, accept), to)
		want = s
		lasts(t, d, k, capOf(400, 4), want)
	}
}

// Promises 19.1 and 19.5, rule P4: a disk that has an open desk is opened once more: the second one has what there is, and goes on; a third one has what the second one did.
func TestOpenOfAnOpenOne(t *testing.T) {
	d, k := formatted(t, 120, 4, 9)
	do(t, k, restock(line(1, 1, 5, 0)))
	do(t, k, checkout(1, line(1, 1, 2, 300)))
	want := k.State()
	e := opened(t, d)
	lasts(t, d, e, 24, want)
	lasts(t, d, k, 24, want)
	do(t, e, pump(0, accept))
	if same(e.State(), want) {
		t.Error("nothing was done")
	}
	has(t, k, 24, want)
	lasts(t, d, opened(t, d), 24, e.State())
}

// Rules P1 and P2: a store with a right state that has not room for what this may come to: what goes no further is told, changes nothing and leaves nothing open, however often.
func TestOpenWithoutRoom(t *testing.T) {
	s := api.State{Limit: 40, Cells: []api.Cell{{Item: 1, Ware: 1, Free: 9, All: 9}}}
	for id := 1; id <= 11; id++ { // 24 entries with the limit and the cell
		s, _ = next(s, 1000, checkout(id, line(1, 1, 1, 5)))
	}
	d := storing(t, 120, 4, entriesOf(t, s))
	k := opened(t, d)
	lasts(t, d, k, 24, s)
	if k.Room() >= 0 {
		t.Error("Room:", k.Room())
	}
	s, to := next(s, 24, pump(0, accept))
	does(t, k, pump(0, accept), to) // the units are held: no entry more
	lasts(t, d, k, 24, s)
	for range 2 * api.MaxOpen {
		does(t, k, pump(0, accept), answer{why: api.ErrFull}) // a posting more
		lasts(t, d, k, 24, s)
	}
	does(t, k, restock(line(1, 1, 1, 0)), refused(api.ErrFull))
	does(t, k, ask(api.AskStatus, 3), answer{reply: api.Reply{Status: api.StatusOpen, Amount: 5}})
	lasts(t, d, k, 24, s)
}
