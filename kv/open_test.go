package kv_test

import (
	"bytes"
	"fmt"
	"slices"
	"strings"
	"testing"

	"lading/api"
	"lading/disk"
	"lading/journal"
	"lading/kv"
	"lading/node"
	"lading/pager"
)

func refusesOpen(t *testing.T, name string, d *disk.Disk, want api.Errno) {
	t.Helper()
	if s, why := kv.Open(d); s != nil || why != want {
		t.Errorf("%s: Open: %v, error %d, and not %d", name, s != nil, why, want)
	}
}

// filled is a disk without a nought.
func filled(t *testing.T, n int) *disk.Disk {
	t.Helper()
	d := disk.New(n)
	for i := range n {
		must(t, d.Write(i, bytes.Repeat([]byte{'#'}, api.SectorSize)))
	}
	must(t, d.Sync())
	return d
}

// Promise 11.1: Format is the pager's: its errors in their order, what it writes, and that it is safe.
func TestFormat(t *testing.T) {
	down := disk.New(80)
	must(t, down.Cut())
	cases := []struct {
		name    string
		d       *disk.Disk
		journal int
		want    api.Errno
	}{
		{"no disk", nil, 4, api.ErrNil},
		{"no disk, no journal", nil, -1, api.ErrNil},
		{"no journal", disk.New(80), 0, api.ErrRange},
		{"a journal below nothing", disk.New(80), -1, api.ErrRange},
		{"a journal too many", disk.New(80), 47, api.ErrRange},
		{"a journal far too many", disk.New(80), 1 << 62, api.ErrRange},
		{"a disk too small", disk.New(34), 1, api.ErrRange},
		{"no journal, no power", down, 0, api.ErrRange},
		{"no power", down, 4, api.ErrDown},
		{"as many as may be", disk.New(80), 46, api.OK},
		{"the least", disk.New(35), 1, api.OK},
	}
	for _, c := range cases {
		if why := kv.Format(c.d, c.journal); why != c.want {
			t.Error(c.name, ": error", why, "and not", c.want)
		}
	}
	d := filled(t, 80)
	same := d.Fork()
	must(t, kv.Format(d, 5))
	must(t, pager.Format(same, 5))
	if !sameSectors(sectorsOf(t, d), sectorsOf(t, same)) || len(d.Unsynced()) != 0 {
		t.Error("Format writes otherwise than the pager's")
	}
	for count := range 2 {
		d := disk.New(80)
		must(t, d.Arm(count))
		if why := kv.Format(d, 4); why != api.ErrDown {
			t.Error("Format with power for", count, "writes: error", why)
		}
	}
}

// Promise 11.1: a formatted disk has a store with nothing in it, whatever else its sectors are.
func TestOpenNew(t *testing.T) {
	cases := []struct{ sectors, journal, most int }{{35, 1, 4}, {80, 4, 14}, {80, 46, 4}, {1024, 1, 251}, {1024, 990, 4}}
	for _, c := range cases {
		for _, d := range []*disk.Disk{disk.New(c.sectors), filled(t, c.sectors)} {
			must(t, kv.Format(d, c.journal))
			writes := d.Writes()
			s := opened(t, d)
			lasts(t, d, s, nil)
			if s.Room() != c.journal || s.Cap() != c.most || d.Writes() != writes {
				t.Error("of", c.sectors, "sectors: Room", s.Room(), "Cap", s.Cap(), "writes", d.Writes()-writes)
			}
			must(t, commit(t, s, put("a", "1")))
			lasts(t, d, s, pairs("a", "1"))
		}
	}
}

// Promise 11.1: disks that are none, that have no power or no superblock that counts.
func TestOpenOfNoPager(t *testing.T) {
	refusesOpen(t, "no disk", nil, api.ErrNil)
	refusesOpen(t, "a new disk", disk.New(80), api.ErrCode)
	refusesOpen(t, "a small disk", disk.New(1), api.ErrCode)
	refusesOpen(t, "a filled disk", filled(t, 80), api.ErrCode)
	for _, d := range []*disk.Disk{disk.New(80), laid(t, nil), laid(t, pairs("a", "1"), []string{"no record"})} {
		must(t, d.Cut())
		refusesOpen(t, "without power", d, api.ErrDown)
	}
	b, why := pager.Bytes(api.Super{Gen: 1, Seq: 1, Journal: 4})
	must(t, why)
	spoilt := bytes.Clone(b)
	spoilt[9]++
	cases := []struct {
		name    string
		sectors int
		at      int
		data    []byte
	}{
		{"a spoilt superblock", 80, 1, spoilt},
		{"a superblock in the wrong sector", 80, 0, b},
		{"a superblock in the journal", 80, 2, b},
		{"a disk that is too small for it", 37, 1, b},
	}
	for _, c := range cases {
		d := disk.New(c.sectors)
		must(t, d.Write(c.at, c.data))
		must(t, d.Sync())
		refusesOpen(t, c.name, d, api.ErrCode)
	}
}

// Promise 11.1: pages that are no tree, or that have not as many entries as the superblock says.
func TestOpenOfNoTree(t *testing.T) {
	d, s := formatted(t, 80, 4)
	for i := range 12 {
		must(t, commit(t, s, put(fmt.Sprintf("%0200d", i), strings.Repeat("v", 500))))
	}
	must(t, s.Checkpoint())
	super, _, _ := onDisk(t, d)
	spoil := func(sector int) *disk.Disk {
		spoilt := d.Fork()
		b, why := spoilt.Read(sector)
		must(t, why)
		b[77]++
		must(t, spoilt.Write(sector, b))
		return spoilt
	}
	refusesOpen(t, "a spoilt root", spoil(super.Root), api.ErrCode)
	root, why := d.Read(super.Root)
	must(t, why)
	page, why := node.Decode(root)
	must(t, why)
	for _, kid := range page.Kids {
		refusesOpen(t, "a spoilt page", spoil(kid), api.ErrCode)
	}
	if len(page.Kids) == 0 {
		t.Error("the tree has one page alone")
	}
	for _, live := range []int{0, 11, 13} {
		other := super
		other.Gen, other.Live = super.Gen+1, live
		b, why := pager.Bytes(other)
		must(t, why)
		wrong := d.Fork()
		must(t, wrong.Write(int(other.Gen%2), b))
		refusesOpen(t, "another Live", wrong, api.ErrCode)
	}
}

// Promise 11.1: what there is is the tree's entries with all batches done, in order.
func TestOpenWithBatches(t *testing.T) {
	longKey, longVal := strings.Repeat("k", api.MaxKey), strings.Repeat("v", api.MaxValue)
	tree := pairs("", "0", "a", "1", "b", "2", "c", "3")
	cases := []struct {
		name    string
		batches [][]api.Write
		want    []api.Pair
	}{
		{"nothing", nil, tree},
		{"a batch of nothing", [][]api.Write{nil}, tree},
		{"one more", [][]api.Write{{put("d", "4")}}, pairs("", "0", "a", "1", "b", "2", "c", "3", "d", "4")},
		{"others", [][]api.Write{{put("", "x"), put("a", ""), put("c", "y")}}, pairs("", "x", "a", "", "b", "2", "c", "y")},
		{"gone", [][]api.Write{{drop(""), drop("b"), drop("x")}}, pairs("a", "1", "c", "3")},
		{"the same", [][]api.Write{{put("a", "1")}}, tree},
		{"there and back", [][]api.Write{{put("a", "x"), drop("b"), put("n", "n")}, {put("a", "1"), put("b", "2"), drop("n")}}, tree},
		{"back and there", [][]api.Write{{put("a", "1"), put("b", "2"), drop("n")}, {put("a", "x"), drop("b"), put("n", "n")}}, pairs("", "0", "a", "x", "c", "3", "n", "n")},
		{"a batch of nothing between", [][]api.Write{{drop("a")}, nil, {drop("b")}, {put("a", "z")}}, pairs("", "0", "a", "z", "c", "3")},
		{"the longest", [][]api.Write{{put(longKey, longVal)}, {put("a", longVal)}}, pairs("", "0", "a", longVal, "b", "2", "c", "3", longKey, longVal)},
		{"the longest, gone", [][]api.Write{{put(longKey, longVal)}, {drop(longKey)}}, tree},
		{"all gone", [][]api.Write{{drop(""), drop("a"), drop("b"), drop("c")}}, nil},
	}
	for _, c := range cases {
		var batches [][]string
		for _, l := range c.batches {
			var b []string
			for _, w := range l {
				b = append(b, record(w))
			}
			batches = append(batches, b)
		}
		d := laid(t, tree, batches...)
		s := opened(t, d)
		if !slices.Equal(s.Pairs(), c.want) || s.Room() != 4-len(batches) {
			t.Errorf("%s: %.200q Room %d", c.name, s.Pairs(), s.Room())
		}
		lasts(t, d, s, c.want)
		must(t, s.Checkpoint())
		lasts(t, d, s, c.want)
		if super, l, b := onDisk(t, d); super.Seq != uint64(3+len(batches)) || !slices.Equal(l, c.want) || len(b) != 0 {
			t.Errorf("%s: behind a checkpoint: %v %.200q %d", c.name, super, l, len(b))
		}
	}
}

// wrongRecords are those that are none.
func wrongRecords() []string {
	longKey, longVal := strings.Repeat("k", api.MaxKey+1), strings.Repeat("v", api.MaxValue+1)
	return []string{
		"",
		"\x00",
		"a",
		"\x01a",
		"\x02a\x00",
		"\x81\x00a\x00",
		"\x80\x00\x00",
		"\x80",
		"\x01a\x02",
		"\x01a\x02\x01b",
		"\x01a\xff",
		"\x01a\x00\x00",
		"\x01a\x00\x01b",
		"\x01a\x01",
		"\x01a\x01\x01",
		"\x01a\x01\x02b",
		"\x01a\x01\x01bb",
		"\x01a\x01\x01b\x00",
		"\x01a\x01\x81\x00b",
		"\x01a\x01\x80\x00",
		"\x01a\x01\x80",
		"\x01a\x01\x00\x00",
		record(put(longKey, "")),
		record(drop(longKey)),
		record(put("a", longVal)),
		record(put(strings.Repeat("k", api.MaxText+1), "")),
		record(put("a", strings.Repeat("v", api.MaxText+1))),
		"\xff\xff\xff\xff\xff\xff\xff\xff\xff\x01a\x00",
		"\xff\xff\xff\xff\xff\xff\xff\xff\xff\xff\x01a\x00",
		"\x01a\x01\xff\xff\xff\xff\xff\xff\xff\xff\xff\x01b",
		strings.Repeat("\xff", api.MaxRecord),
		strings.Repeat("\x00", api.MaxRecord),
	}
}

// Promise 11.1: a record that is none, wherever it is among others.
func TestOpenOfNoRecord(t *testing.T) {
	a, b := record(put("a", "1")), record(drop("b"))
	for i, w := range wrongRecords() {
		for j, batches := range [][][]string{{{w}}, {{w, a}}, {{a, w}}, {{a, w, b}}, {{w}, {a}}, {{a}, {w}}, {{a}, {b}, {a, b, w}}} {
			refusesOpen(t, fmt.Sprintf("record %d, place %d", i, j), laid(t, pairs("b", "2"), batches...), api.ErrCode)
		}
	}
	opened(t, laid(t, pairs("b", "2"), []string{a, b}, []string{b, a})) // with none of them it is one
}

// Promise 11.1: frames that are none, and all behind them, count no more; what is ahead of them does.
func TestOpenWithSpoiltFrames(t *testing.T) {
	for spoilt := range 4 {
		d := laid(t, pairs("t", "0"), []string{record(put("a", "1"))}, []string{record(put("b", "2"))}, []string{record(drop("t"))}, []string{record(put("a", "3"))})
		sector := 2 + (3+spoilt-1)%4
		b, why := d.Read(sector)
		must(t, why)
		b[700]++
		must(t, d.Write(sector, b))
		must(t, d.Sync())
		want := [][]api.Pair{pairs("t", "0"), pairs("a", "1", "t", "0"), pairs("a", "1", "b", "2", "t", "0"), pairs("a", "1", "b", "2")}[spoilt]
		s := opened(t, d)
		lasts(t, d, s, want)
		if s.Room() != 4-spoilt {
			t.Error("Room:", s.Room())
		}
	}
}

// Promise 11.1: a wrong record within a frame that is none is not looked at; nor is what lies ahead of Seq.
func TestOpenOfWhatDoesNotCount(t *testing.T) {
	d := laid(t, nil, []string{record(put("a", "1"))}, []string{"no record"})
	b, why := d.Read(5)
	must(t, why)
	b[0]++
	must(t, d.Write(5, b))
	has(t, opened(t, d), pairs("a", "1"))
	d = laid(t, nil, []string{"no record"}, []string{record(put("b", "2"))})
	super, why := pager.Bytes(api.Super{Gen: 3, Seq: 4, Journal: 4})
	must(t, why)
	must(t, d.Write(1, super))
	has(t, opened(t, d), pairs("b", "2"))
}

// Promises 11.1 and P1: batches by hand that make more entries than there is room for, or than there may be at all.
func TestOpenOfTooMany(t *testing.T) {
	var full []string
	want := map[string]string{}
	for i := range 20 {
		full = append(full, record(put(small('a'+i), "1")))
		want[small('a'+i)] = "1"
	}
	d := laid(t, nil, full)
	s := opened(t, d)
	lasts(t, d, s, pairsOf(want))
	if why := commit(t, s, drop("a")); why != api.ErrFull {
		t.Error("Commit that leaves more than Cap: error", why)
	}
	if why := s.Checkpoint(); why != api.ErrFull {
		t.Error("Checkpoint of more than Cap: error", why)
	}
	lasts(t, d, s, pairsOf(want))
	l := []api.Write{drop("a"), drop("b"), drop("c"), drop("d"), drop("e"), drop("f")}
	must(t, commit(t, s, l...))
	lasts(t, d, s, pairsOf(done(want, l...)))
	must(t, s.Checkpoint())
	lasts(t, d, s, pairsOf(done(want, l...)))

	d = disk.New(200)
	must(t, kv.Format(d, 100))
	j, _, why := journal.Open(d, 2, 100, 1)
	must(t, why)
	for i := range 2 {
		var many []string
		for k := range api.MaxList/2 + i {
			many = append(many, record(put(fmt.Sprintf("%d-%05d", i, k), "")))
		}
		must(t, j.Append(many))
	}
	refusesOpen(t, "more than MaxList entries", d, api.ErrMany)
}

// Promise 11.1: a superblock with the greatest numbers that may be.
func TestOpenOfTheLastNumbers(t *testing.T) {
	for _, super := range []api.Super{{Gen: 1 << 62, Seq: 1, Journal: 4}, {Gen: 2, Seq: 1 << 61, Journal: 4}} {
		d := disk.New(80)
		b, why := pager.Bytes(super)
		must(t, why)
		must(t, d.Write(0, b))
		must(t, d.Sync())
		s := opened(t, d)
		must(t, commit(t, s, put("a", "1")))
		lasts(t, d, s, pairs("a", "1"))
		if why := s.Checkpoint(); why != api.ErrRange {
			t.Error("Checkpoint: error", why)
		}
		for range 3 {
			must(t, commit(t, s, put("a", "2")))
		}
		if why := commit(t, s, put("a", "3")); why != api.ErrRange {
			t.Error("Commit that needs a checkpoint: error", why)
		}
		lasts(t, d, s, pairs("a", "2"))
	}
}
