package journal_test

import (
	"bytes"
	"math"
	"slices"
	"strings"
	"testing"

	"lading/api"
	"lading/disk"
	"lading/journal"
)

// opened is a journal that must open, and the batches that are found.
func opened(t *testing.T, d *disk.Disk, first, count int, from uint64) (*journal.Journal, [][]string) {
	t.Helper()
	j, l, why := journal.Open(d, first, count, from)
	if j == nil || why != api.OK {
		t.Fatalf("Open(%d, %d, %d): error %d", first, count, from, why)
	}
	return j, l
}

func must(t *testing.T, why api.Errno) {
	t.Helper()
	if why != api.OK {
		t.Fatal("error", why)
	}
}

// wants holds what is found against batches.
func wants(t *testing.T, found, want [][]string) {
	t.Helper()
	if !slices.EqualFunc(found, want, slices.Equal) {
		t.Fatalf("%d batches are found, want %d, or they are others", len(found), len(want))
	}
}

// stands holds a journal against what it should say of itself.
func stands(t *testing.T, j *journal.Journal, from, next uint64, room int) {
	t.Helper()
	if j.From() != from || j.Next() != next || j.Room() != room {
		t.Fatalf("from %d, next %d, room %d, want %d, %d, %d", j.From(), j.Next(), j.Room(), from, next, room)
	}
}

// all are the sectors of a disk.
func all(t *testing.T, d *disk.Disk) [][]byte {
	t.Helper()
	var l [][]byte
	for i := range d.Sectors() {
		b, why := d.Read(i)
		must(t, why)
		l = append(l, b)
	}
	return l
}

// Promises 5.2 to 5.4: the chapter's example.
func TestExample(t *testing.T) {
	d := disk.New(8)
	j, l := opened(t, d, 2, 4, 1)
	wants(t, l, nil)
	stands(t, j, 1, 1, 4)
	must(t, j.Append([]string{"a"}))
	must(t, j.Append([]string{"b"}))
	stands(t, j, 1, 3, 2)
	k, l := opened(t, d, 2, 4, 1)
	wants(t, l, [][]string{{"a"}, {"b"}})
	stands(t, k, 1, 3, 2)
	must(t, j.Drop(2))
	stands(t, j, 2, 3, 3)
	k, l = opened(t, d, 2, 4, 2)
	wants(t, l, [][]string{{"b"}})
	stands(t, k, 2, 3, 3)
}

// Promises 5.2, P2 and P3: what can't be opened, the error that is named first ahead, nothing beside it.
func TestOpenWrong(t *testing.T) {
	d, down := disk.New(8), disk.New(8)
	down.Cut()
	cases := []struct {
		d            *disk.Disk
		first, count int
		from         uint64
		why          api.Errno
	}{
		{nil, 2, 4, 1, api.ErrNil},
		{nil, -1, 0, 0, api.ErrNil},
		{disk.New(0), 2, 4, 1, api.ErrNil},
		{d, 2, 0, 1, api.ErrRange},
		{d, 2, -1, 1, api.ErrRange},
		{d, 2, math.MinInt, 1, api.ErrRange},
		{d, -1, 4, 1, api.ErrRange},
		{d, -4, 4, 1, api.ErrRange},
		{d, math.MinInt, 4, 1, api.ErrRange},
		{d, math.MinInt, math.MaxInt, 1, api.ErrRange},
		{d, 5, 4, 1, api.ErrRange},
		{d, 0, 9, 1, api.ErrRange},
		{d, 8, 1, 1, api.ErrRange},
		{d, 8, 0, 1, api.ErrRange},
		{d, 9, 1, 1, api.ErrRange},
		{d, math.MaxInt, 1, 1, api.ErrRange},
		{d, 1, math.MaxInt, 1, api.ErrRange},
		{d, math.MaxInt, math.MaxInt, 1, api.ErrRange},
		{d, 2, 4, 0, api.ErrRange},
		{d, 2, 4, 1<<61 + 1, api.ErrRange},
		{d, 2, 4, 1 << 62, api.ErrRange},
		{d, 2, 4, math.MaxUint64, api.ErrRange},
		{down, 2, 0, 1, api.ErrRange},
		{down, 5, 4, 1, api.ErrRange},
		{down, 2, 4, 0, api.ErrRange},
		{down, 2, 4, 1, api.ErrDown},
	}
	for _, c := range cases {
		if j, l, why := journal.Open(c.d, c.first, c.count, c.from); j != nil || len(l) != 0 || why != c.why {
			t.Errorf("Open(%d, %d, %d): %d batches, error %d, want %d", c.first, c.count, c.from, len(l), why, c.why)
		}
	}
}

// Promise 5.2: journals of all places that a disk has, and numbers up to the last one.
func TestOpenAtTheEnds(t *testing.T) {
	for _, c := range []struct{ first, count int }{{0, 1}, {0, 8}, {7, 1}, {4, 4}, {3, 5}} {
		for _, from := range []uint64{1, 2, 7, 1 << 32, 1<<61 - 1, 1 << 61} {
			d := disk.New(8)
			j, l := opened(t, d, c.first, c.count, from)
			wants(t, l, nil)
			stands(t, j, from, from, c.count)
			must(t, j.Append([]string{"a"}))
			stands(t, j, from, from+1, c.count-1)
			j, l = opened(t, d, c.first, c.count, from)
			wants(t, l, [][]string{{"a"}})
			stands(t, j, from, from+1, c.count-1)
		}
	}
}

// Promise 5.5 and P1: a journal that is none.
func TestNilJournal(t *testing.T) {
	var j *journal.Journal
	if w1, w2, w3 := j.Append(nil), j.Drop(1), j.Append(make([]string, api.MaxList+1)); w1 != api.ErrNil || w2 != api.ErrNil || w3 != api.ErrNil {
		t.Error("errors", w1, w2, w3)
	}
	stands(t, j, 0, 0, 0)
}

// Promises 5.3 and 5.5: the sectors are where the document says, and no others are written; opening and dropping write nothing.
func TestWhereSectorsLie(t *testing.T) {
	const first, count = 2, 5
	d := disk.New(9)
	before := bytes.Repeat([]byte("#"), api.SectorSize)
	for i := range 9 {
		must(t, d.Write(i, before))
	}
	must(t, d.Sync())
	want := all(t, d)
	j, l := opened(t, d, first, count, 4)
	wants(t, l, nil)
	writes := d.Writes()
	for n, records := range [][]string{{"a"}, sized(t, 2*4064), {"c", "d"}, sized(t, 3*4064), nil, sized(t, 5*4064)} {
		next := j.Next()
		must(t, j.Drop(next))
		must(t, j.Append(records))
		for i, b := range framed(text(records), next) {
			want[first+(int(next)+i-1)%count] = b
			writes++
		}
		if !same(all(t, d), want) {
			t.Fatalf("the batch %d from %d on lies elsewhere", n, next)
		}
		if d.Writes() != writes || len(d.Unsynced()) != 0 {
			t.Fatalf("the batch %d: %d writes, want %d; unsynced %d", n, d.Writes(), writes, d.Unsynced())
		}
		_, l := opened(t, d, first, count, next)
		wants(t, l, [][]string{records})
		if d.Writes() != writes {
			t.Fatal("Open has written")
		}
	}
}

// Promise 5.3: the sectors are written in order, till the power goes; what was not answered OK does not count.
func TestWrittenInOrder(t *testing.T) {
	for count := range 3 {
		d := disk.New(8)
		j, _ := opened(t, d, 1, 4, 4)
		must(t, d.Arm(count))
		if why := j.Append(sized(t, 3*4064)); why != api.ErrDown {
			t.Fatalf("Append of which %d writes go: error %d", count, why)
		}
		if got, want := d.Unsynced(), []int{4, 1, 2}[:count]; !slices.Equal(got, slices.Sorted(slices.Values(want))) {
			t.Errorf("%d writes: unsynced %d, want %d", count, got, want)
		}
		stands(t, j, 4, 4, 4)
	}
}

// Promise 5.3: an Append that failed for want of power is made good by another Open alone; Drop goes on.
func TestAfterAFailedAppend(t *testing.T) {
	d := disk.New(8)
	j, _ := opened(t, d, 2, 4, 1)
	must(t, j.Append([]string{"a"}))
	d.Cut()
	if why := j.Append(make([]string, api.MaxList+1)); why != api.ErrMany {
		t.Error("Append of too many without power: error", why)
	}
	if why := j.Append(sized(t, 4*4064)); why != api.ErrFull {
		t.Error("Append of too much without power: error", why)
	}
	if why := j.Append([]string{"b"}); why != api.ErrDown {
		t.Error("Append without power: error", why)
	}
	must(t, d.Restore(nil))
	for _, records := range [][]string{{"b"}, nil, make([]string, api.MaxList+1), {strings.Repeat("r", api.MaxRecord+1)}, sized(t, 5*4064)} {
		if why := j.Append(records); why != api.ErrState {
			t.Error("Append behind one that failed: error", why)
		}
	}
	stands(t, j, 1, 2, 3)
	if why := j.Drop(3); why != api.ErrRange {
		t.Error("Drop of too much: error", why)
	}
	must(t, j.Drop(2))
	stands(t, j, 2, 2, 4)
	if why := j.Append(nil); why != api.ErrState {
		t.Error("Append behind Drop: error", why)
	}
	if d.Writes() != 1 {
		t.Error("a refused Append has written:", d.Writes())
	}
	k, l := opened(t, d, 2, 4, 1)
	wants(t, l, [][]string{{"a"}})
	must(t, k.Append([]string{"b"}))
	stands(t, k, 1, 3, 2)
}

// Promise 5.3: a journal whose disk lost its power between two Appends goes on, since nothing of it was under way.
func TestPowerBetweenAppends(t *testing.T) {
	d := disk.New(8)
	j, _ := opened(t, d, 2, 4, 1)
	must(t, j.Append([]string{"a"}))
	must(t, d.Cut())
	must(t, d.Restore(nil))
	must(t, j.Append([]string{"b"}))
	_, l := opened(t, d, 2, 4, 1)
	wants(t, l, [][]string{{"a"}, {"b"}})
}

// Promises 5.3, P2 and P3: Append's errors, in their order; they change nothing.
func TestAppendWrong(t *testing.T) {
	d := disk.New(8)
	j, _ := opened(t, d, 2, 4, 1)
	must(t, j.Append([]string{"a"}))
	was := all(t, d)
	long := strings.Repeat("r", api.MaxRecord+1)
	manyLong := slices.Repeat([]string{long}, api.MaxList+1)
	cases := []struct {
		records []string
		why     api.Errno
	}{
		{make([]string, api.MaxList+1), api.ErrMany},
		{manyLong, api.ErrMany},
		{[]string{long}, api.ErrLong},
		{manyLong[:5], api.ErrLong},
		{sized(t, 3*4064+1), api.ErrFull},
		{slices.Repeat([]string{long[1:]}, api.MaxList), api.ErrFull},
	}
	for _, c := range cases {
		if why := j.Append(c.records); why != c.why {
			t.Errorf("Append of %d records: error %d, want %d", len(c.records), why, c.why)
		}
		stands(t, j, 1, 2, 3)
	}
	if !same(all(t, d), was) || d.Writes() != 1 {
		t.Error("a refused Append has written")
	}
	must(t, j.Append(sized(t, 3*4064)))
	stands(t, j, 1, 5, 0)
	if why := j.Append(nil); why != api.ErrFull {
		t.Error("Append without room: error", why)
	}
	stands(t, j, 1, 5, 0)
}

// Promises 5.4 and 5.9: Drop, its ends, and the room that it makes.
func TestDrop(t *testing.T) {
	d := disk.New(8)
	j, _ := opened(t, d, 2, 4, 10)
	for i := range 4 {
		must(t, j.Append([]string{string(rune('a' + i))}))
	}
	stands(t, j, 10, 14, 0)
	for _, to := range []uint64{0, 1, 9, 15, 1 << 61, math.MaxUint64} {
		if why := j.Drop(to); why != api.ErrRange {
			t.Errorf("Drop(%d): error %d", to, why)
		}
		stands(t, j, 10, 14, 0)
	}
	must(t, j.Drop(10))
	stands(t, j, 10, 14, 0)
	must(t, j.Drop(12))
	stands(t, j, 12, 14, 2)
	if why := j.Drop(11); why != api.ErrRange {
		t.Error("Drop of what is dropped: error", why)
	}
	must(t, j.Append(sized(t, 2*4064)))
	stands(t, j, 12, 16, 0)
	_, l := opened(t, d, 2, 4, 12)
	wants(t, l, [][]string{{"c"}, {"d"}, sized(t, 2*4064)})
	must(t, j.Drop(16))
	stands(t, j, 16, 16, 4)
	if w1, w2 := j.Drop(15), j.Drop(17); w1 != api.ErrRange || w2 != api.ErrRange {
		t.Error("Drop beside an empty journal: errors", w1, w2)
	}
}

// Promise 5.2: a journal that begins within a batch finds nothing there, and stands at its beginning.
func TestOpenWithinABatch(t *testing.T) {
	d := disk.New(8)
	j, _ := opened(t, d, 2, 4, 1)
	must(t, j.Append(sized(t, 2*4064)))
	must(t, j.Append([]string{"b"}))
	must(t, j.Drop(2))
	stands(t, j, 2, 4, 2)
	k, l := opened(t, d, 2, 4, 2)
	wants(t, l, nil)
	stands(t, k, 2, 2, 4)
}

// Promises 5.2 and 5.9: never more than count sectors are found, even if all that there are go on.
func TestNeverMoreThanCount(t *testing.T) {
	d := disk.New(4)
	put := func(records []string, s uint64) {
		for i, b := range framed(text(records), s) {
			must(t, d.Write(int(s-1+uint64(i))%4, b))
		}
	}
	for s := range uint64(4) {
		put([]string{"x"}, s+1)
	}
	j, l := opened(t, d, 0, 4, 1)
	wants(t, l, [][]string{{"x"}, {"x"}, {"x"}, {"x"}})
	stands(t, j, 1, 5, 0)
	j, l = opened(t, d, 0, 3, 1)
	wants(t, l, [][]string{{"x"}, {"x"}, {"x"}})
	stands(t, j, 1, 4, 0)
	put(sized(t, 2*4064), 3)
	j, l = opened(t, d, 0, 4, 1)
	wants(t, l, [][]string{{"x"}, {"x"}, sized(t, 2*4064)})
	stands(t, j, 1, 5, 0)
	j, l = opened(t, d, 0, 3, 1)
	wants(t, l, [][]string{{"x"}, {"x"}})
	stands(t, j, 1, 3, 1)
}

// Promise 5.2: what is behind a batch that is none counts no more, whichever of its sectors is spoilt.
func TestFoundUpToTheFirstWrongOne(t *testing.T) {
	records := [][]string{{"a"}, sized(t, 2*4064), {"c"}, nil, sized(t, 3*4064)}
	found := []int{0, 1, 1, 2, 3, 4, 4, 4}
	for spoilt, count := range found {
		for _, at := range []int{0, 5, 8, 16, 24, 27, 28, 32, 40, 4095} {
			d := disk.New(10)
			j, _ := opened(t, d, 1, 8, 6)
			for _, l := range records {
				must(t, j.Append(l))
			}
			i := 1 + (5+spoilt)%8
			b, _ := d.Read(i)
			b[at] ^= 0xff
			must(t, d.Write(i, b))
			k, l := opened(t, d, 1, 8, 6)
			wants(t, l, records[:count])
			next := 6 + []uint64{0, 1, 3, 4, 5}[count]
			stands(t, k, 6, next, 8-int(next-6))
		}
	}
}

// Promise 5.2: sectors with all their bytes right that say of their batch what can't be.
func TestFoundSectorsThatLie(t *testing.T) {
	one := text([]string{"x"})
	for _, h := range []head{
		{"LDNG", 2, 2, 0, 3}, {"LDNG", 2, 2, 2, 3}, {"LDNG", 2, 2, 3, api.Payload}, {"LDNG", 2, 2, 4, 3},
		{"LDNG", 2, 2, math.MaxUint32, 3}, {"LDNG", 2, 1, 1, 3}, {"LDNG", 1, 1, 1, 3}, {"LDNG", 6, 6, 1, 3}, {"LDSB", 2, 2, 1, 3},
	} {
		d := disk.New(4)
		j, _ := opened(t, d, 0, 4, 1)
		must(t, j.Append([]string{"a"}))
		must(t, d.Write(1, sealed(h, one)))
		k, l := opened(t, d, 0, 4, 1)
		wants(t, l, [][]string{{"a"}})
		stands(t, k, 1, 2, 3)
	}
}

// Promises 5.2, 5.8 and 5.9: a journal that goes round and round finds what was not dropped, and nothing of earlier rounds.
func TestRoundAndRound(t *testing.T) {
	for _, count := range []int{1, 2, 3, 7} {
		d := disk.New(8)
		j, _ := opened(t, d, 1, count, 1)
		var kept [][]string
		for i := range 40 {
			if j.Room() == 0 {
				must(t, j.Drop(j.From()+1))
				kept = kept[1:]
			}
			records := []string{strings.Repeat("r", i), "x"}
			must(t, j.Append(records))
			kept = append(kept, records)
			k, l := opened(t, d, 1, count, j.From())
			wants(t, l, kept)
			stands(t, k, j.From(), j.Next(), j.Room())
		}
	}
}

// Promise 5.5: records that are handed in are not kept, and what is found is new memory each time.
func TestJournalMemory(t *testing.T) {
	d := disk.New(8)
	j, _ := opened(t, d, 2, 4, 1)
	records := []string{"a", "b"}
	must(t, j.Append(records))
	if !slices.Equal(records, []string{"a", "b"}) {
		t.Error("Append changed what was handed in")
	}
	records[0], records[1] = "x", "y"
	must(t, j.Append([]string{"c"}))
	_, l := opened(t, d, 2, 4, 1)
	wants(t, l, [][]string{{"a", "b"}, {"c"}})
	_, again := opened(t, d, 2, 4, 1)
	full := l[0][:cap(l[0])]
	for i := range full {
		full[i] = "z"
	}
	wants(t, l[1:], [][]string{{"c"}})
	l[1] = nil
	wants(t, again, [][]string{{"a", "b"}, {"c"}})
}

// P4: two journals on one disk, asked by turns, have nothing to do with one another.
func TestTwoJournals(t *testing.T) {
	d := disk.New(8)
	a, _ := opened(t, d, 0, 4, 1)
	b, _ := opened(t, d, 4, 4, 1)
	must(t, a.Append([]string{"a"}))
	must(t, b.Append([]string{"b"}))
	must(t, a.Append([]string{"aa"}))
	must(t, b.Drop(2))
	stands(t, a, 1, 3, 2)
	stands(t, b, 2, 2, 4)
	_, l := opened(t, d, 0, 4, 1)
	wants(t, l, [][]string{{"a"}, {"aa"}})
	_, l = opened(t, d, 4, 4, 1)
	wants(t, l, [][]string{{"b"}})
}
