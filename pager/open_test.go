package pager_test

import (
	"bytes"
	"math"
	"slices"
	"testing"

	"lading/api"
	"lading/disk"
	"lading/pager"
)

func read(t *testing.T, d *disk.Disk, i int) []byte {
	t.Helper()
	b, why := d.Read(i)
	must(t, why)
	return b
}

// filled is a disk without a nought.
func filled(t *testing.T, n int) *disk.Disk {
	t.Helper()
	d := disk.New(n)
	for i := range n {
		must(t, d.Write(i, bytes.Repeat([]byte{'#'}, 4096)))
	}
	must(t, d.Sync())
	return d
}

func opened(t *testing.T, d *disk.Disk) *pager.Pager {
	t.Helper()
	p, why := pager.Open(d)
	if p == nil || why != api.OK {
		t.Fatal("Open: error", why)
	}
	return p
}

func formatted(t *testing.T, sectors, journal int) (*disk.Disk, *pager.Pager) {
	t.Helper()
	d := disk.New(sectors)
	must(t, pager.Format(d, journal))
	return d, opened(t, d)
}

// Promise 7.2: what Format writes, where, and that it is safe.
func TestFormat(t *testing.T) {
	d := filled(t, 40)
	writes := d.Writes()
	must(t, pager.Format(d, 4))
	if d.Writes() != writes+2 || len(d.Unsynced()) != 0 {
		t.Error("Format:", d.Writes()-writes, "writes, unsynced:", d.Unsynced())
	}
	if !bytes.Equal(read(t, d, 0), make([]byte, 4096)) || !bytes.Equal(read(t, d, 1), raw(1, 1, 0, 4, 0)) {
		t.Error("Format: other superblocks")
	}
	for i := 2; i < 40; i++ {
		if !bytes.Equal(read(t, d, i), bytes.Repeat([]byte{'#'}, 4096)) {
			t.Error("Format: another sector", i)
		}
	}
	p := opened(t, d)
	if p.Super() != (api.Super{Gen: 1, Seq: 1, Journal: 4}) || p.Pages() != 34 || p.Used() != 0 {
		t.Error("Open:", p.Super(), p.Pages(), p.Used())
	}
}

// Promise 7.2: a disk that was used is new again, whatever its superblocks were.
func TestFormatAgain(t *testing.T) {
	d, p := formatted(t, 40, 4)
	for i := range 5 {
		must(t, p.Commit(0, uint64(i+7), i))
	}
	must(t, pager.Format(d, 2))
	if s := opened(t, d).Super(); s != (api.Super{Gen: 1, Seq: 1, Journal: 2}) {
		t.Error("Format again:", s)
	}
}

// Promises 7.2, P2 and P3: Format's errors in their order, with nothing changed.
func TestFormatWrong(t *testing.T) {
	if why := pager.Format(nil, 0); why != api.ErrNil {
		t.Error("Format of no disk: error", why)
	}
	for _, c := range []struct {
		sectors, journal int
		why              api.Errno
	}{
		{40, 0, api.ErrRange}, {40, -1, api.ErrRange}, {40, 7, api.ErrRange}, {40, 6, api.OK}, {40, 1, api.OK},
		{40, 40, api.ErrRange}, {40, 38, api.ErrRange}, {40, math.MaxInt, api.ErrRange}, {40, math.MinInt, api.ErrRange},
		{34, 1, api.ErrRange}, {35, 1, api.OK}, {35, 2, api.ErrRange}, {1, 1, api.ErrRange}, {2, 1, api.ErrRange},
		{1024, 990, api.OK}, {1024, 991, api.ErrRange}, {1024, 1024, api.ErrRange}, {1024, 1, api.OK},
	} {
		d := disk.New(c.sectors)
		if why := pager.Format(d, c.journal); why != c.why {
			t.Errorf("Format of %d sectors with %d: error %d, want %d", c.sectors, c.journal, why, c.why)
		}
		if c.why != api.OK && d.Writes() != 0 {
			t.Errorf("Format of %d sectors with %d: it was written", c.sectors, c.journal)
		}
		if c.why == api.OK && opened(t, d).Pages() != c.sectors-2-c.journal {
			t.Errorf("Format of %d sectors with %d: other pages", c.sectors, c.journal)
		}
	}
}

// Promise 7.2: Format without power, or with power that goes.
func TestFormatDown(t *testing.T) {
	d := disk.New(40)
	must(t, d.Cut())
	if w1, w2 := pager.Format(d, 4), pager.Format(d, 7); w1 != api.ErrDown || w2 != api.ErrRange {
		t.Error("Format without power: errors", w1, w2)
	}
	for count, want := range [][]int{{}, {1}} {
		d := disk.New(40)
		must(t, d.Arm(count))
		if why := pager.Format(d, 4); why != api.ErrDown || !slices.Equal(d.Unsynced(), want) {
			t.Error("Format with power for", count, "writes: error", why, "unsynced:", d.Unsynced())
		}
	}
	d = disk.New(40)
	must(t, d.Arm(2))
	must(t, pager.Format(d, 4))
}

// Promises 7.2 and P3: Open's errors in their order, with no pager beside them.
func TestOpenWrong(t *testing.T) {
	refused := func(name string, d *disk.Disk, want api.Errno) {
		t.Helper()
		if p, why := pager.Open(d); p != nil || why != want {
			t.Errorf("Open of %s: error %d, want %d", name, why, want)
		}
	}
	refused("no disk", nil, api.ErrNil)
	for _, n := range []int{1, 2, 34, 35, 40, 1024} {
		refused("an empty disk", disk.New(n), api.ErrCode)
	}
	refused("any bytes", filled(t, 40), api.ErrCode)
	d := disk.New(40)
	must(t, d.Cut())
	refused("an empty disk without power", d, api.ErrDown)
	d, _ = formatted(t, 40, 4)
	must(t, d.Cut())
	refused("a disk without power", d, api.ErrDown)
	must(t, d.Restore(nil))
	opened(t, d)
	one := disk.New(1)
	must(t, one.Write(0, raw(2, 1, 0, 1, 0)))
	refused("a disk of one sector", one, api.ErrCode)
}

// place is what a disk has in one of its first sectors.
type place struct {
	sector int
	super  api.Super
}

// superblocks are those of a disk, and the Gen of the one that counts: 0, if none does.
type superblocks struct {
	name    string
	sectors int
	places  []place
	gen     uint64
}

func superblocksToFind() []superblocks {
	s := func(sector int, gen uint64, root, journal int) place {
		return place{sector, api.Super{Gen: gen, Seq: 1, Root: root, Journal: journal}}
	}
	good := s(1, 3, 6, 4)
	return []superblocks{
		{"one in the sector 1", 40, []place{good}, 3},
		{"one in the sector 0", 40, []place{s(0, 2, 6, 4)}, 2},
		{"two, the second one later", 40, []place{s(0, 2, 6, 4), good}, 3},
		{"two, the first one later", 40, []place{s(0, 4, 6, 4), good}, 4},
		{"two far apart", 40, []place{s(0, 1<<62, 6, 4), good}, 1 << 62},
		{"two far apart the other way", 40, []place{s(0, 2, 6, 4), s(1, 1<<62-1, 6, 4)}, 1<<62 - 1},
		{"an odd one in the sector 0", 40, []place{s(0, 5, 6, 4)}, 0},
		{"an even one in the sector 1", 40, []place{s(1, 4, 6, 4)}, 0},
		{"one in the sector 2", 40, []place{s(2, 4, 6, 4)}, 0},
		{"an odd one in the sector 0 and a right one", 40, []place{s(0, 5, 6, 4), good}, 3},
		{"an even one in the sector 1 and a right one", 40, []place{s(0, 2, 6, 4), s(1, 6, 6, 4)}, 2},
		{"both in the wrong sectors", 40, []place{s(0, 3, 6, 4), s(1, 2, 6, 4)}, 0},
		{"a journal that just fits", 40, []place{s(0, 4, 8, 6), good}, 4},
		{"a journal too great", 40, []place{s(0, 4, 9, 7), good}, 3},
		{"a journal too great, alone", 40, []place{s(0, 4, 9, 7)}, 0},
		{"a journal too great, without a root", 40, []place{s(0, 4, 0, 7)}, 0},
		{"a journal as great as the disk", 40, []place{s(0, 4, 0, 40)}, 0},
		{"a journal greater than the disk", 40, []place{s(0, 4, 0, 1024)}, 0},
		{"no root", 40, []place{s(0, 4, 0, 4), good}, 4},
		{"the first page as root", 40, []place{s(0, 4, 6, 4), good}, 4},
		{"the last page as root", 40, []place{s(0, 4, 39, 4), good}, 4},
		{"a root behind the disk", 40, []place{s(0, 4, 40, 4), good}, 3},
		{"a root far behind the disk", 40, []place{s(0, 4, 1024, 4), good}, 3},
		{"the journal's last sector as root", 40, []place{s(0, 4, 5, 4), good}, 3},
		{"a superblock as root", 40, []place{s(0, 4, 1, 4), good}, 3},
		{"a root in the journal, alone", 40, []place{s(0, 4, 5, 4)}, 0},
		{"the least disk", 35, []place{s(0, 4, 34, 1)}, 4},
		{"too small a disk", 34, []place{s(0, 4, 0, 1)}, 0},
		{"the greatest disk", 1024, []place{s(0, 4, 1023, 990)}, 4},
	}
}

// Promises 7.2 and 7.9: which superblock counts, and the pages that there are with it.
func TestWhichCounts(t *testing.T) {
	for _, c := range superblocksToFind() {
		d := disk.New(c.sectors)
		var want api.Super
		for _, at := range c.places {
			must(t, d.Write(at.sector, rawOf(at.super)))
			if at.super.Gen == c.gen {
				want = at.super
			}
		}
		p, why := pager.Open(d)
		if c.gen == 0 {
			if p != nil || why != api.ErrCode {
				t.Errorf("%s: error %d, want %d", c.name, why, api.ErrCode)
			}
			continue
		}
		if p == nil || why != api.OK || p.Super() != want {
			t.Errorf("%s: %+v, error %d, want %+v", c.name, p.Super(), why, want)
			continue
		}
		if first, why := p.Alloc(); first != 2+want.Journal || why != api.OK || p.Pages() != c.sectors-2-want.Journal {
			t.Errorf("%s: first page %d, error %d, %d pages", c.name, first, why, p.Pages())
		}
	}
}

// Promise 7.2: where one of two superblocks is spoilt the other one counts, where both are none does.
func TestSpoiltSuperblock(t *testing.T) {
	d, p := formatted(t, 40, 4)
	must(t, p.Commit(0, 9, 0))
	good := [][]byte{read(t, d, 0), read(t, d, 1)}
	for i := range 4096 {
		b := bytes.Clone(good[0])
		b[i] ^= 0x10
		must(t, d.Write(0, b))
		if s := opened(t, d).Super(); s.Gen != 1 {
			t.Fatalf("with the byte %d spoilt: %+v", i, s)
		}
	}
	must(t, d.Write(0, good[0]))
	must(t, d.Write(1, good[1][:4000]))
	if s := opened(t, d).Super(); s.Gen != 2 || s.Seq != 9 {
		t.Errorf("with the older one spoilt: %+v", s)
	}
	must(t, d.Write(0, good[0][:4000]))
	if p, why := pager.Open(d); p != nil || why != api.ErrCode {
		t.Error("with both spoilt: error", why)
	}
}
