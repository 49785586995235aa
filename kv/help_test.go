package kv_test

import (
	"bytes"
	"maps"
	"math/rand/v2"
	"slices"
	"strings"
	"testing"

	"lading/api"
	"lading/disk"
	"lading/journal"
	"lading/kv"
	"lading/pager"
	"lading/tree"
)

func must(t *testing.T, why api.Errno) {
	t.Helper()
	if why != api.OK {
		t.Fatal("error", why)
	}
}

func opened(t *testing.T, d *disk.Disk) *kv.Store {
	t.Helper()
	s, why := kv.Open(d)
	if s == nil || why != api.OK {
		t.Fatal("Open: error", why)
	}
	return s
}

func formatted(t *testing.T, sectors, journal int) (*disk.Disk, *kv.Store) {
	t.Helper()
	d := disk.New(sectors)
	must(t, kv.Format(d, journal))
	return d, opened(t, d)
}

func begun(t *testing.T, s *kv.Store) int {
	t.Helper()
	tx, why := s.Begin()
	must(t, why)
	return tx
}

func put(key, val string) api.Write { return api.Write{Key: key, Val: val} }

func drop(key string) api.Write { return api.Write{Key: key, Gone: true} }

// writing is a transaction with these writes, that is open.
func writing(t *testing.T, s *kv.Store, l ...api.Write) int {
	t.Helper()
	tx := begun(t, s)
	for _, w := range l {
		if w.Gone {
			must(t, s.Delete(tx, w.Key))
		} else {
			must(t, s.Put(tx, w.Key, w.Val))
		}
	}
	return tx
}

func commit(t *testing.T, s *kv.Store, l ...api.Write) api.Errno {
	t.Helper()
	return s.Commit(writing(t, s, l...))
}

// pairs are keys and values in turn.
func pairs(words ...string) []api.Pair {
	var l []api.Pair
	for i := 0; i < len(words); i += 2 {
		l = append(l, api.Pair{Key: words[i], Val: words[i+1]})
	}
	return l
}

func pairsOf(m map[string]string) []api.Pair {
	var l []api.Pair
	for _, k := range slices.Sorted(maps.Keys(m)) {
		l = append(l, api.Pair{Key: k, Val: m[k]})
	}
	return l
}

// done is m with writes done.
func done(m map[string]string, l ...api.Write) map[string]string {
	next := maps.Clone(m)
	for _, w := range l {
		if w.Gone {
			delete(next, w.Key)
		} else {
			next[w.Key] = w.Val
		}
	}
	return next
}

// has holds what there is, in all calls that tell it, against what there should be.
func has(t *testing.T, s *kv.Store, want []api.Pair) {
	t.Helper()
	if l := s.Pairs(); !slices.Equal(l, want) || s.Live() != len(want) {
		t.Fatalf("Pairs: %d, Live %d: %.200q, and not %d: %.200q", len(l), s.Live(), l, len(want), want)
	}
}

// lasts holds a store, and one that is opened anew on a fork of its disk, against what there should be.
func lasts(t *testing.T, d *disk.Disk, s *kv.Store, want []api.Pair) {
	t.Helper()
	has(t, s, want)
	again := opened(t, d.Fork())
	has(t, again, want)
	tx := begun(t, again)
	if l, why := again.Scan(tx, "", ""); tx != 1 || !slices.Equal(l, want) || why != api.OK {
		t.Fatalf("opened anew, transaction %d scans %d of %d, error %d", tx, len(l), len(want), why)
	}
	if s.Room() != again.Room() || s.Cap() != again.Cap() {
		t.Fatal("opened anew: Room", again.Room(), "and not", s.Room(), "Cap", again.Cap(), "and not", s.Cap())
	}
	if len(d.Unsynced()) != 0 {
		t.Fatal("unsynced:", d.Unsynced())
	}
}

func sectorsOf(t *testing.T, d *disk.Disk) [][]byte {
	t.Helper()
	var l [][]byte
	for i := range d.Sectors() {
		b, why := d.Read(i)
		must(t, why)
		l = append(l, b)
	}
	return l
}

func sameSectors(a, b [][]byte) bool {
	return slices.EqualFunc(a, b, bytes.Equal)
}

// small is a number's one byte.
func small(n int) string { return string([]byte{byte(n)}) }

// text is a text's bytes, up to 2^14 - 1 of them.
func text(s string) string {
	if len(s) < 128 {
		return small(len(s)) + s
	}
	return small(len(s)%128+128) + small(len(s)/128) + s
}

// record is a write's bytes, as chapter 11 words them.
func record(w api.Write) string {
	if w.Gone {
		return text(w.Key) + "\x00"
	}
	return text(w.Key) + "\x01" + text(w.Val)
}

// batchSize is how many bytes the batch of writes has.
func batchSize(l ...api.Write) int {
	n := 1 + len(l)/128
	for _, w := range l {
		n += len(text(record(w)))
	}
	return n
}

// sized are n writes whose batch has just so many bytes; their keys begin with name, their values are about as long as one another.
func sized(t *testing.T, name string, n, size int) []api.Write {
	t.Helper()
	var l []api.Write
	for i := range n {
		l = append(l, put(name+small('a'+i), strings.Repeat("v", 128)))
	}
	more := size - batchSize(l...)
	for i := range l {
		l[i].Val += strings.Repeat("w", more/n)
		if i < more%n {
			l[i].Val += "x"
		}
	}
	if batchSize(l...) != size {
		t.Fatal("no such batch:", batchSize(l...))
	}
	return l
}

// onDisk are the superblock that counts, the tree's entries and the journal's batches, as the layers below find them.
func onDisk(t *testing.T, d *disk.Disk) (api.Super, []api.Pair, [][]string) {
	t.Helper()
	d = d.Fork()
	p, why := pager.Open(d)
	must(t, why)
	super := p.Super()
	x, why := tree.Open(p)
	must(t, why)
	l, why := x.Scan("", "", x.Live())
	must(t, why)
	_, batches, why := journal.Open(d, 2, super.Journal, super.Seq)
	must(t, why)
	return super, l, batches
}

// laid is a disk of 80 sectors with a journal of 4, with these entries in its tree, and these batches behind one another from Seq 3 on.
func laid(t *testing.T, entries []api.Pair, batches ...[]string) *disk.Disk {
	t.Helper()
	d := disk.New(80)
	must(t, pager.Format(d, 4))
	p, why := pager.Open(d)
	must(t, why)
	x, why := tree.Open(p)
	must(t, why)
	var l []api.Write
	for _, e := range entries {
		l = append(l, put(e.Key, e.Val))
	}
	must(t, x.Update(l, 3))
	j, found, why := journal.Open(d, 2, 4, 3)
	must(t, why)
	if len(found) != 0 {
		t.Fatal("found:", found)
	}
	for _, b := range batches {
		must(t, j.Append(b))
	}
	return d
}

// someFates are lists of fates of all kinds for so many sectors.
func someFates(r *rand.Rand, n int) [][]api.Fate {
	lists := [][]api.Fate{nil}
	for _, f := range []api.Fate{{Kind: api.FateKeep}, {Kind: api.FateTear}, {Kind: api.FateTear, Mask: 1}, {Kind: api.FateTear, Mask: 0x81}, {Kind: api.FateTear, Mask: 0xfe}, {Kind: api.FateTear, Mask: 0x7f}, {Kind: api.FateTear, Mask: 0xff}} {
		lists = append(lists, slices.Repeat([]api.Fate{f}, n))
	}
	for range 6 {
		var l []api.Fate
		for range n {
			l = append(l, api.Fate{Kind: api.FateKind(r.IntN(3)), Mask: uint8(r.Uint32())})
		}
		lists = append(lists, l)
	}
	return lists
}

// everyStep are steps of every kind, of a transaction that is open and of others.
func everyStep(tx int) []api.TxStep {
	var l []api.TxStep
	for kind := api.TxBegin; kind < api.TxCount; kind++ {
		for _, n := range []int{tx, 0, -1, 99} {
			l = append(l,
				api.TxStep{Kind: kind, Tx: n, Key: "a", To: "z", Val: "new"},
				api.TxStep{Kind: kind, Tx: n, Key: strings.Repeat("k", api.MaxKey+1), Val: strings.Repeat("v", api.MaxValue+1)})
		}
	}
	return l
}
