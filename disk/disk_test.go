package disk_test

import (
	"bytes"
	"math"
	"slices"
	"strings"
	"testing"

	"lading/api"
	"lading/disk"
)

// sector is s, and noughts behind it.
func sector(s string) []byte {
	b := make([]byte, api.SectorSize)
	copy(b, s)
	return b
}

// must fails where a step is refused.
func must(t *testing.T, why api.Errno) {
	t.Helper()
	if why != api.OK {
		t.Fatal("error", why)
	}
}

// holds fails where a sector is not s, and noughts behind it.
func holds(t *testing.T, d *disk.Disk, i int, s string) {
	t.Helper()
	b, why := d.Read(i)
	if !bytes.Equal(b, sector(s)) || why != api.OK {
		t.Errorf("sector %d: %d bytes %q.., error %d, want %q", i, len(b), b[:min(len(b), 16)], why, s)
	}
}

// unsynced fails where other sectors are.
func unsynced(t *testing.T, d *disk.Disk, want ...int) {
	t.Helper()
	if l := d.Unsynced(); !slices.Equal(l, want) {
		t.Errorf("unsynced: %v, want %v", l, want)
	}
}

// Promise 4.1: a disk has 1 to MaxSectors sectors, all noughts, and there is none of other numbers.
func TestNew(t *testing.T) {
	for _, n := range []int{1, 2, 3, api.MaxSectors - 1, api.MaxSectors} {
		d := disk.New(n)
		if d == nil || d.Sectors() != n || d.Down() || d.Writes() != 0 {
			t.Fatalf("New(%d): %d sectors, down %v, %d writes", n, d.Sectors(), d.Down(), d.Writes())
		}
		unsynced(t, d)
		for i := range n {
			holds(t, d, i, "")
		}
	}
	for _, n := range []int{0, -1, api.MaxSectors + 1, math.MaxInt, math.MinInt} {
		if disk.New(n) != nil {
			t.Errorf("New(%d) is a disk", n)
		}
	}
}

// Promises 4.1, 4.2 and 4.8: what is written is read at once, with noughts behind it, and unsynced till the disk is synced.
func TestWriteReadSync(t *testing.T) {
	d := disk.New(5)
	must(t, d.Write(4, []byte("four")))
	must(t, d.Write(1, bytes.Repeat([]byte("x"), api.SectorSize)))
	must(t, d.Write(2, nil))
	unsynced(t, d, 1, 2, 4)
	holds(t, d, 0, "")
	holds(t, d, 1, strings.Repeat("x", api.SectorSize))
	holds(t, d, 4, "four")
	must(t, d.Write(1, []byte("y")))
	holds(t, d, 1, "y")
	unsynced(t, d, 1, 2, 4)
	must(t, d.Sync())
	unsynced(t, d)
	holds(t, d, 1, "y")
	holds(t, d, 4, "four")
	must(t, d.Write(4, []byte{}))
	holds(t, d, 4, "")
	unsynced(t, d, 4)
	must(t, d.Write(4, []byte("four")))
	unsynced(t, d, 4)
	must(t, d.Sync())
	must(t, d.Sync())
	if d.Writes() != 6 {
		t.Errorf("%d writes, want 6", d.Writes())
	}
}

// Promises 4.2, P2 and P3: the errors of reads and writes, in order; what is refused changes nothing and counts for nothing.
func TestReadWriteErrors(t *testing.T) {
	d := disk.New(3)
	must(t, d.Write(0, []byte("a")))
	must(t, d.Arm(1))
	long := make([]byte, api.SectorSize+1)
	for _, i := range []int{-1, 3, math.MaxInt, math.MinInt} {
		if b, why := d.Read(i); len(b) != 0 || why != api.ErrRange {
			t.Errorf("Read(%d): %d bytes, error %d", i, len(b), why)
		}
		if why := d.Write(i, nil); why != api.ErrRange {
			t.Errorf("Write(%d): error %d", i, why)
		}
		if why := d.Write(i, long); why != api.ErrRange {
			t.Errorf("Write(%d) of too much: error %d", i, why)
		}
	}
	if why := d.Write(1, long); why != api.ErrLong {
		t.Error("Write of too much: error", why)
	}
	unsynced(t, d, 0)
	if d.Writes() != 1 || d.Down() {
		t.Errorf("refused writes count: %d, down %v", d.Writes(), d.Down())
	}
	must(t, d.Write(1, long[1:]))
	if why := d.Write(1, long); why != api.ErrLong || d.Down() {
		t.Errorf("Write of too much at the write at which the power goes: error %d, down %v", why, d.Down())
	}
	if why := d.Write(3, nil); why != api.ErrRange || d.Down() {
		t.Errorf("Write of no sector at the write at which the power goes: error %d, down %v", why, d.Down())
	}
	if why := d.Write(2, []byte("c")); why != api.ErrDown || !d.Down() {
		t.Errorf("Write at which the power goes: error %d, down %v", why, d.Down())
	}
}

// Promises 4.1 to 4.3: without power all but Restore, and what tells how the disk is, answers ErrDown ahead of all else, and changes nothing.
func TestDown(t *testing.T) {
	d := disk.New(3)
	must(t, d.Write(2, []byte("a")))
	must(t, d.Write(0, []byte("b")))
	must(t, d.Cut())
	long := make([]byte, api.SectorSize+1)
	calls := map[string]func() api.Errno{
		"Read":              func() api.Errno { _, why := d.Read(0); return why },
		"Read of none":      func() api.Errno { _, why := d.Read(3); return why },
		"Write":             func() api.Errno { return d.Write(1, nil) },
		"Write of none":     func() api.Errno { return d.Write(-1, nil) },
		"Write of too much": func() api.Errno { return d.Write(1, long) },
		"Sync":              d.Sync,
		"Arm":               func() api.Errno { return d.Arm(0) },
		"Arm below 0":       func() api.Errno { return d.Arm(-1) },
		"Cut":               d.Cut,
	}
	for name, call := range calls {
		if why := call(); why != api.ErrDown {
			t.Errorf("%s without power: error %d", name, why)
		}
	}
	if b, _ := d.Read(0); len(b) != 0 {
		t.Error("Read without power answers bytes")
	}
	if !d.Down() || d.Sectors() != 3 || d.Writes() != 2 {
		t.Errorf("without power: down %v, %d sectors, %d writes", d.Down(), d.Sectors(), d.Writes())
	}
	unsynced(t, d, 0, 2)
	must(t, d.Restore([]api.Fate{{Kind: api.FateKeep}}))
	holds(t, d, 0, "b")
	holds(t, d, 2, "")
	must(t, d.Write(0, nil))
}

// Promises 4.3 and 4.9: armed with n just n more writes go, and the one at which the power goes writes nothing.
func TestArm(t *testing.T) {
	for n := range 5 {
		d := disk.New(1)
		must(t, d.Write(0, []byte("0")))
		must(t, d.Arm(n))
		must(t, d.Sync())
		last := "0"
		for i := range n {
			last = strings.Repeat("x", i+1)
			must(t, d.Write(0, []byte(last)))
			holds(t, d, 0, last)
			must(t, d.Sync())
		}
		if d.Down() {
			t.Fatalf("armed with %d: the power has gone too soon", n)
		}
		if why := d.Write(0, []byte("too late")); why != api.ErrDown || !d.Down() || d.Writes() != n+1 {
			t.Errorf("armed with %d: error %d, down %v, %d writes", n, why, d.Down(), d.Writes())
		}
		unsynced(t, d)
		must(t, d.Restore([]api.Fate{{Kind: api.FateKeep}}))
		holds(t, d, 0, last)
		must(t, d.Write(0, nil))
		must(t, d.Write(0, nil))
	}
}

// Promise 4.3: below 0 a disk is not armed at all; the last count holds; a cut and a restore leave it unarmed.
func TestArmAnew(t *testing.T) {
	d := disk.New(1)
	for _, n := range []int{-1, math.MinInt} {
		must(t, d.Arm(0))
		must(t, d.Arm(n))
		must(t, d.Write(0, nil))
	}
	must(t, d.Arm(0))
	must(t, d.Arm(math.MaxInt))
	must(t, d.Write(0, nil))
	must(t, d.Arm(5))
	must(t, d.Arm(1))
	must(t, d.Write(0, nil))
	if why := d.Write(0, nil); why != api.ErrDown {
		t.Error("armed with 1 behind 5: error", why)
	}
	must(t, d.Restore(nil))
	must(t, d.Arm(1))
	must(t, d.Cut())
	must(t, d.Restore(nil))
	for range 3 {
		must(t, d.Write(0, nil))
	}
}

// Promises 4.1 and P4: a fork stands as its disk, in all that is asked and in what it does next.
func TestForkStands(t *testing.T) {
	d := disk.New(3)
	must(t, d.Write(0, []byte("synced")))
	must(t, d.Sync())
	must(t, d.Write(0, []byte("fresh")))
	must(t, d.Write(2, []byte("two")))
	must(t, d.Arm(1))
	f := d.Fork()
	unsynced(t, f, 0, 2)
	if f.Sectors() != 3 || f.Writes() != 3 || f.Down() {
		t.Errorf("fork: %d sectors, %d writes, down %v", f.Sectors(), f.Writes(), f.Down())
	}
	holds(t, f, 0, "fresh")
	must(t, f.Write(1, []byte("one")))
	if why := f.Write(1, nil); why != api.ErrDown {
		t.Error("a fork of an armed disk: error", why)
	}
	g := f.Fork()
	if !g.Down() {
		t.Error("a fork of a disk without power has some")
	}
	must(t, g.Restore([]api.Fate{{Kind: api.FateLose}, {Kind: api.FateKeep}}))
	holds(t, g, 0, "synced")
	holds(t, g, 1, "one")
	holds(t, g, 2, "")
	unsynced(t, f, 0, 1, 2)
	must(t, f.Restore(slices.Repeat([]api.Fate{{Kind: api.FateKeep}}, 3)))
	holds(t, f, 0, "fresh")
	unsynced(t, d, 0, 2)
	holds(t, d, 1, "")
	if d.Down() || d.Writes() != 3 {
		t.Errorf("a disk whose fork went on: down %v, %d writes", d.Down(), d.Writes())
	}
}

// Promises 4.1 and P4: each of a disk and its fork goes its own way.
func TestForkGoesItsWay(t *testing.T) {
	d := disk.New(2)
	must(t, d.Write(0, []byte("a")))
	must(t, d.Sync())
	f := d.Fork()
	must(t, f.Write(0, []byte("f")))
	must(t, f.Write(1, []byte("f")))
	holds(t, d, 0, "a")
	unsynced(t, d)
	must(t, f.Sync())
	holds(t, d, 0, "a")
	holds(t, d, 1, "")
	must(t, d.Write(1, []byte("d")))
	holds(t, f, 1, "f")
	must(t, d.Cut())
	must(t, d.Restore([]api.Fate{{Kind: api.FateTear, Mask: 1}}))
	holds(t, d, 1, "d")
	holds(t, f, 1, "f")
	holds(t, f, 0, "f")
	must(t, f.Arm(0))
	must(t, d.Write(0, nil))
}

// Promise 4.4: Do answers what the call of its kind answers, and does it.
func TestDo(t *testing.T) {
	d := disk.New(2)
	must(t, d.Do(api.DiskStep{Kind: api.DiskWrite, Sector: 1, Data: []byte("a"), Count: 7, Fates: []api.Fate{{Kind: 9}}}))
	holds(t, d, 1, "a")
	unsynced(t, d, 1)
	must(t, d.Do(api.DiskStep{Kind: api.DiskSync}))
	unsynced(t, d)
	must(t, d.Do(api.DiskStep{Kind: api.DiskArm, Count: 1}))
	must(t, d.Do(api.DiskStep{Kind: api.DiskWrite, Sector: 0, Data: []byte("b")}))
	refused := []struct {
		step api.DiskStep
		why  api.Errno
	}{
		{api.DiskStep{Kind: api.DiskWrite, Sector: 2}, api.ErrRange},
		{api.DiskStep{Kind: api.DiskWrite, Sector: 1, Data: make([]byte, api.SectorSize+1)}, api.ErrLong},
		{api.DiskStep{Kind: api.DiskRestore}, api.ErrState},
		{api.DiskStep{Kind: api.DiskNone}, api.ErrType},
		{api.DiskStep{Kind: api.DiskCount}, api.ErrType},
		{api.DiskStep{Kind: 255}, api.ErrType},
		{api.DiskStep{Kind: api.DiskWrite, Sector: 1}, api.ErrDown},
		{api.DiskStep{Kind: api.DiskSync}, api.ErrDown},
		{api.DiskStep{Kind: api.DiskArm}, api.ErrDown},
		{api.DiskStep{Kind: api.DiskCut}, api.ErrDown},
		{api.DiskStep{Kind: api.DiskRestore, Fates: make([]api.Fate, api.MaxSectors+1)}, api.ErrMany},
		{api.DiskStep{Kind: api.DiskRestore, Fates: []api.Fate{{Kind: api.FateCount}}}, api.ErrType},
		{api.DiskStep{Kind: api.DiskNone}, api.ErrType},
	}
	for i, c := range refused {
		if why := d.Do(c.step); why != c.why {
			t.Errorf("step %d: error %d, want %d", i, why, c.why)
		}
	}
	unsynced(t, d, 0)
	must(t, d.Do(api.DiskStep{Kind: api.DiskRestore, Fates: []api.Fate{{Kind: api.FateKeep}}}))
	holds(t, d, 0, "b")
	must(t, d.Do(api.DiskStep{Kind: api.DiskCut}))
	if !d.Down() {
		t.Error("Do of a cut: there is power")
	}
}

// Promises 4.5 and P1: of a nil disk.
func TestNil(t *testing.T) {
	var d *disk.Disk
	calls := map[string]func() api.Errno{
		"Read":    func() api.Errno { _, why := d.Read(0); return why },
		"Write":   func() api.Errno { return d.Write(0, make([]byte, api.SectorSize+1)) },
		"Sync":    d.Sync,
		"Arm":     func() api.Errno { return d.Arm(1) },
		"Cut":     d.Cut,
		"Restore": func() api.Errno { return d.Restore([]api.Fate{{Kind: 9}}) },
	}
	for kind := range api.DiskCount + 2 {
		calls["Do "+string('0'+rune(kind))] = func() api.Errno { return d.Do(api.DiskStep{Kind: kind}) }
	}
	for name, call := range calls {
		if why := call(); why != api.ErrNil {
			t.Errorf("%s of none: error %d", name, why)
		}
	}
	if b, _ := d.Read(0); len(b) != 0 {
		t.Error("Read of none answers bytes")
	}
	if d.Fork() != nil || d.Sectors() != 0 || d.Down() || len(d.Unsynced()) != 0 || d.Writes() != 0 {
		t.Error("of none something is told")
	}
}

// Promises 4.5, P4: answers are new memory, what is handed in is neither changed nor kept.
func TestMemory(t *testing.T) {
	d := disk.New(3)
	room := []byte("data....")
	must(t, d.Write(0, room[:4]))
	must(t, d.Do(api.DiskStep{Kind: api.DiskWrite, Sector: 1, Data: room[:4]}))
	must(t, d.Write(2, room[:0]))
	if string(room) != "data...." {
		t.Errorf("Write changed what it was given: %q", room)
	}
	copy(room, "!!!!!!!!")
	f := d.Fork()
	for _, each := range []*disk.Disk{d, f} {
		for range 2 {
			l := each.Unsynced()
			l[0] = 7
			for i, want := range []string{"data", "data", ""} {
				holds(t, each, i, want)
				b, _ := each.Read(i)
				copy(b, "????????????")
			}
		}
		unsynced(t, each, 0, 1, 2)
	}
	must(t, d.Sync())
	b, _ := d.Read(0)
	clear(b)
	holds(t, d, 0, "data")
	must(t, f.Cut())
	fates := []api.Fate{{Kind: api.FateKeep}, {Kind: api.FateTear, Mask: 255}, {}}
	must(t, f.Restore(fates))
	if !slices.Equal(fates, []api.Fate{{Kind: api.FateKeep}, {Kind: api.FateTear, Mask: 255}, {}}) {
		t.Errorf("Restore changed what it was given: %v", fates)
	}
	for i := range 2 {
		b, _ := f.Read(i)
		clear(b)
		holds(t, f, i, "data")
	}
}
