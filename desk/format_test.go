package desk_test

import (
	"bytes"
	"math"
	"math/rand/v2"
	"testing"

	"lading/api"
	"lading/desk"
	"lading/disk"
	"lading/journal"
	"lading/kv"
)

func sectorsOf(t *testing.T, d *disk.Disk) []byte {
	t.Helper()
	var all [][]byte
	for i := range d.Sectors() {
		b, why := d.Read(i)
		must(t, why)
		all = append(all, b)
	}
	return bytes.Join(all, nil)
}

// Promise 19.1: ErrNil of a nil disk, ahead of all else.
func TestFormatOfNil(t *testing.T) {
	for _, n := range []int{-1, 0, 3, 4, 9, api.MaxOrders + 1} {
		if why := desk.Format(nil, n, n); why != api.ErrNil {
			t.Error("Format of nil with", n, ": error", why)
		}
	}
}

// Promise 19.1: disks of all small sizes and journals: what there is no room for is ErrRange, and changes nothing; else the state has the limit and nothing else.
func TestFormatOfSmallDisks(t *testing.T) {
	for sectors := 1; sectors <= 60; sectors++ {
		for journal := -1; journal <= 26; journal++ {
			d := disk.New(sectors)
			why := desk.Format(d, journal, 9)
			if journal < 4 || sectors-2-journal < 32 {
				if why != api.ErrRange || d.Writes() != 0 {
					t.Fatal("Format of", sectors, "sectors with", journal, ": error", why, "writes:", d.Writes())
				}
				continue
			}
			must(t, why)
			lasts(t, d, opened(t, d), capOf(sectors, journal), api.State{Limit: 9})
		}
	}
}

// Promise 19.1: journals and limits at their ends and beyond.
func TestFormatAtTheEnds(t *testing.T) {
	for _, journal := range []int{math.MinInt, -4, 0, 1, 3, 4, 990, 991, 1022, 1024, math.MaxInt - 2, math.MaxInt} {
		for _, limit := range []int{math.MinInt, -1, 0, 1, api.MaxOrders, api.MaxOrders + 1, math.MaxInt} {
			d := disk.New(api.MaxSectors)
			why := desk.Format(d, journal, limit)
			if journal < 4 || journal > 990 || limit < 0 || limit > 1024 {
				if why != api.ErrRange || d.Writes() != 0 {
					t.Error("Format with", journal, limit, ": error", why, "writes:", d.Writes())
				}
				continue
			}
			must(t, why)
			lasts(t, d, opened(t, d), capOf(1024, journal), api.State{Limit: limit})
		}
	}
}

// Promise 19.1: an order more than the limit is refused.
func TestFormatWithALimit(t *testing.T) {
	for limit := range 4 {
		_, k := formatted(t, 200, 4, limit)
		for id := 1; id <= limit; id++ {
			does(t, k, checkout(id, line(1, 1, 1, 5)), answer{reply: api.Reply{Status: api.StatusOpen, Amount: 5}})
		}
		does(t, k, checkout(99, line(1, 1, 1, 5)), refused(api.ErrFull))
	}
}

// Promise 19.1: numbers are looked at ahead of the power; without power Format is ErrDown.
func TestFormatWithoutPower(t *testing.T) {
	d := disk.New(120)
	must(t, d.Cut())
	for _, c := range []struct {
		journal, limit int
		want           api.Errno
	}{{3, 9, api.ErrRange}, {4, -1, api.ErrRange}, {4, 1025, api.ErrRange}, {100, 9, api.ErrRange}, {4, 9, api.ErrDown}} {
		if why := desk.Format(d, c.journal, c.limit); why != c.want {
			t.Error("Format with", c.journal, c.limit, ": error", why)
		}
	}
}

// Promise 19.1: the power goes at each write of a Format: ErrDown, and what is opened then, if it is a desk, has nothing but the limit; made new once more it is one.
func TestFormatCut(t *testing.T) {
	r := rand.New(rand.NewPCG(19, 1))
	whole := disk.New(60)
	must(t, desk.Format(whole, 5, 7))
	for count := range whole.Writes() {
		for _, fates := range someFates(r, whole.Writes()) {
			d := disk.New(60)
			must(t, d.Arm(count))
			if why := desk.Format(d, 5, 7); why != api.ErrDown {
				t.Fatal("Format with power for", count, "writes: error", why)
			}
			must(t, d.Restore(fates))
			if k, why := desk.Open(d); why == api.OK {
				lasts(t, d, k, capOf(60, 5), api.State{Limit: 7})
			} else if k != nil || why != api.ErrCode {
				t.Fatal("Open behind a cut: error", why)
			}
			must(t, desk.Format(d, 5, 8))
			lasts(t, d, opened(t, d), capOf(60, 5), api.State{Limit: 8})
		}
	}
	d := disk.New(60)
	must(t, d.Arm(whole.Writes()))
	must(t, desk.Format(d, 5, 7))
	must(t, d.Cut())
	must(t, d.Restore(nil))
	lasts(t, d, opened(t, d), capOf(60, 5), api.State{Limit: 7})
}

// used is a disk on which a desk has done n acts and more, that was opened anew and had checkpoints now and then.
func used(t *testing.T, r *rand.Rand, sectors, journal, n int) *disk.Disk {
	t.Helper()
	d, k := formatted(t, sectors, journal, 20)
	do(t, k, restock(line(1, 1, 1000, 0)))
	for range n {
		k.Do(anyAct(r))
		if r.IntN(20) == 0 {
			must(t, k.Checkpoint())
		}
		if r.IntN(20) == 0 {
			k = opened(t, d)
		}
	}
	return d
}

// Promises 19.1 and 19.5: a disk that had a desk is made new, with the same journal or another one: nothing of what was there comes back, however often what is done then is opened anew.
func TestFormatOfAUsedDisk(t *testing.T) {
	r := rand.New(rand.NewPCG(19, 2))
	for n := range 90 {
		was, is := r.IntN(6)+4, r.IntN(6)+4
		if n%2 == 0 {
			is = was
		}
		d := used(t, r, 150, was, n)
		must(t, desk.Format(d, is, n))
		room, want := capOf(150, is), api.State{Limit: n}
		k := opened(t, d)
		lasts(t, d, k, room, want)
		for range 2 * is {
			a := anyAct(r)
			s, to := next(want, room, a)
			does(t, k, a, to)
			want = s
			lasts(t, d, k, room, want)
		}
	}
}

// Promise 19.1: the power goes within a Format of a disk that had a desk: ErrDown; at its last write nothing of what was there comes back; made new once more it has nothing but the limit.
func TestFormatOfAUsedDiskCut(t *testing.T) {
	r := rand.New(rand.NewPCG(19, 3))
	start := used(t, r, 100, 6, 0) // all that it did is in the journal
	do(t, opened(t, start), checkout(1, line(1, 1, 1, 5)))
	whole := start.Fork()
	must(t, desk.Format(whole, 6, 3))
	n := whole.Writes() - start.Writes()
	for count := range n {
		for _, fates := range someFates(r, n) {
			d := start.Fork()
			must(t, d.Arm(count))
			if why := desk.Format(d, 6, 3); why != api.ErrDown {
				t.Fatal("Format with power for", count, "writes: error", why)
			}
			must(t, d.Restore(fates))
			if k, why := desk.Open(d); count == n-1 && why == api.OK {
				lasts(t, d, k, capOf(100, 6), api.State{Limit: 3})
			}
			must(t, desk.Format(d, 6, 3))
			lasts(t, d, opened(t, d), capOf(100, 6), api.State{Limit: 3})
		}
	}
}

// Promise 19.1: a disk is made new whatever is in the sectors that become the journal's: records of none, entries of something else, as many as there can be.
func TestFormatOverSomething(t *testing.T) {
	r := rand.New(rand.NewPCG(19, 4))
	noise := func(d *disk.Disk) {
		for i := range d.Sectors() {
			b := make([]byte, api.SectorSize)
			for at := range b {
				b[at] = byte(r.Uint32())
			}
			must(t, d.Write(i, b))
		}
	}
	records := func(d *disk.Disk) {
		j, _, why := journal.Open(d, 2, 4, 1)
		must(t, why)
		must(t, j.Append([]string{"no record", ""}))
		must(t, j.Append(nil))
	}
	others := func(d *disk.Disk) {
		must(t, kv.Format(d, 4))
		s, why := kv.Open(d)
		must(t, why)
		for i := range 3 {
			tx, why := s.Begin()
			must(t, why)
			must(t, s.Put(tx, string(rune('a'+i)), "1"))
			must(t, s.Commit(tx))
		}
	}
	for _, fill := range []func(*disk.Disk){noise, records, others} {
		d := disk.New(80)
		fill(d)
		must(t, desk.Format(d, 4, 2))
		lasts(t, d, opened(t, d), capOf(80, 4), api.State{Limit: 2})
	}
}

// Promise 19.1 and rule P2: a Format that is refused changes nothing of a desk that is there.
func TestFormatRefused(t *testing.T) {
	d := used(t, rand.New(rand.NewPCG(19, 5)), 100, 6, 30)
	want, before := opened(t, d).State(), sectorsOf(t, d)
	for _, c := range [][2]int{{3, 9}, {4, -1}, {4, 1025}, {67, 9}, {-1, -1}} {
		if why := desk.Format(d, c[0], c[1]); why != api.ErrRange {
			t.Error("Format with", c, ": error", why)
		}
	}
	if !bytes.Equal(sectorsOf(t, d), before) {
		t.Error("a Format that was refused has written")
	}
	lasts(t, d, opened(t, d), capOf(100, 6), want)
}
