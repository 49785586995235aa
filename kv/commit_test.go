package kv_test

import (
	"fmt"
	"slices"
	"strings"
	"testing"

	"lading/api"
	"lading/disk"
	"lading/kv"
)

// Promises 11.3 and 11.4, by the chapter's example: the fifth small commit makes a checkpoint first.
func TestExample(t *testing.T) {
	d, s := formatted(t, 80, 4)
	tx := begun(t, s)
	if tx != 1 || s.Put(tx, "a", "1") != api.OK || s.Commit(tx) != api.OK || s.Room() != 3 {
		t.Fatal("the first commit: transaction", tx, "Room", s.Room())
	}
	has(t, opened(t, d), pairs("a", "1"))
	for i, room := range []int{2, 1, 0, 3} {
		must(t, commit(t, s, put(small('b'+i), "1")))
		super, l, batches := onDisk(t, d)
		isFirst := i == 3
		if s.Room() != room || isFirst != (super.Gen == 2) || isFirst != (len(l) == 4) || len(batches) != 4-room {
			t.Error("commit", i+2, ": Room", s.Room(), "superblock", super, "tree", l, "journal", batches)
		}
	}
	lasts(t, d, s, pairs("a", "1", "b", "1", "c", "1", "d", "1", "e", "1"))
}

// Promise 11.3: what a commit writes to the journal, and that it writes nothing else, and all is safe.
func TestWhatACommitWrites(t *testing.T) {
	longKey, longVal := strings.Repeat("k", api.MaxKey), strings.Repeat("v", api.MaxValue)
	d, s := formatted(t, 80, 8)
	writes := d.Writes()
	must(t, commit(t, s, put("b", "2"), drop("c"), put("a", "1"), put("b", "3"), put("", ""), drop("a")))
	must(t, commit(t, s, put(longKey, longVal), put("\xff", "x"), put("\x00", "y")))
	must(t, commit(t, s, drop(longKey), drop("never")))
	want := [][]string{
		{"\x00\x01\x00", "\x01a\x00", "\x01b\x01\x013", "\x01c\x00"},
		{"\x01\x00\x01\x01y", "\x80\x02" + longKey + "\x01\x80\x04" + longVal, "\x01\xff\x01\x01x"},
		{"\x80\x02" + longKey + "\x00", "\x05never\x00"},
	}
	super, l, batches := onDisk(t, d)
	if super != (api.Super{Gen: 1, Seq: 1, Journal: 8}) || len(l) != 0 || !slices.EqualFunc(batches, want, slices.Equal) {
		t.Errorf("on the disk: %v %v %q", super, l, batches)
	}
	if d.Writes() != writes+3 || s.Room() != 5 {
		t.Error("writes:", d.Writes()-writes, "Room:", s.Room())
	}
	lasts(t, d, s, pairs("", "", "\x00", "y", "b", "3", "\xff", "x"))
}

// Promise 11.4: a checkpoint has the tree have what there is, and the journal be empty, from its Next on.
func TestCheckpoint(t *testing.T) {
	d, s := formatted(t, 80, 4)
	must(t, s.Checkpoint())
	if super, l, batches := onDisk(t, d); super != (api.Super{Gen: 2, Seq: 1, Journal: 4}) || len(l)+len(batches) != 0 {
		t.Error("of nothing:", super, l, batches)
	}
	must(t, commit(t, s, put("a", "1"), put("b", "2"), put("c", "3")))
	must(t, commit(t, s, drop("a"), put("b", "4")))
	must(t, s.Checkpoint())
	want := pairs("b", "4", "c", "3")
	for gen := range uint64(3) {
		super, l, batches := onDisk(t, d)
		if super.Gen != 3+gen || super.Seq != 3 || super.Live != 2 || !slices.Equal(l, want) || len(batches) != 0 || s.Room() != 4 {
			t.Error("checkpoint", gen, ":", super, l, batches, s.Room())
		}
		lasts(t, d, s, want)
		must(t, s.Checkpoint())
	}
	must(t, commit(t, s, drop("b"), drop("c")))
	if _, l, batches := onDisk(t, d); !slices.Equal(l, want) || len(batches) != 1 {
		t.Error("behind a commit:", l, batches)
	}
	must(t, s.Checkpoint())
	if super, l, _ := onDisk(t, d); super.Live != 0 || super.Root != 0 || len(l) != 0 {
		t.Error("of all gone:", super, l)
	}
	lasts(t, d, s, nil)
}

// Promise 11.4: open transactions know nothing of a checkpoint.
func TestCheckpointBesideTransactions(t *testing.T) {
	d, s := formatted(t, 80, 4)
	must(t, commit(t, s, put("a", "1"), put("b", "2")))
	old := begun(t, s)
	must(t, commit(t, s, put("a", "3")))
	own := writing(t, s, put("c", "5"))
	must(t, s.Checkpoint())
	if l, why := s.Scan(old, "", ""); !slices.Equal(l, pairs("a", "1", "b", "2")) || why != api.OK {
		t.Error("Scan of an old one:", l, why)
	}
	if l, why := s.Scan(own, "", ""); !slices.Equal(l, pairs("a", "3", "b", "2", "c", "5")) || why != api.OK {
		t.Error("Scan of one that has written:", l, why)
	}
	lasts(t, d, s, pairs("a", "3", "b", "2"))
	must(t, s.Commit(own))
	lasts(t, d, s, pairs("a", "3", "b", "2", "c", "5"))
	if why := s.Commit(old); why != api.ErrConflict {
		t.Error("Commit of an old one: error", why)
	}
}

// isOver tells that a transaction is over, in every call.
func isOver(t *testing.T, s *kv.Store, tx int) {
	t.Helper()
	_, _, why1 := s.Get(tx, "a")
	_, why2 := s.Scan(tx, "", "")
	l := []api.Errno{why1, why2, s.Put(tx, "a", ""), s.Delete(tx, "a"), s.Commit(tx), s.Abort(tx)}
	if !slices.Equal(l, slices.Repeat([]api.Errno{api.ErrUnknown}, 6)) {
		t.Errorf("transaction %d is not over: errors %v", tx, l)
	}
}

// refusesCommit tells that a commit is refused, its transaction over, and all else as it was (11.8).
func refusesCommit(t *testing.T, d *disk.Disk, s *kv.Store, tx int, want api.Errno) {
	t.Helper()
	sectors, writes, l, room := sectorsOf(t, d), d.Writes(), s.Pairs(), s.Room()
	other := begun(t, s)
	if why := s.Commit(tx); why != want {
		t.Fatal("Commit: error", why, "and not", want)
	}
	isOver(t, s, tx)
	if !sameSectors(sectors, sectorsOf(t, d)) || d.Writes() != writes || s.Room() != room {
		t.Error("a commit that was refused has changed the disk, or Room")
	}
	if seen, why := s.Scan(other, "", ""); !slices.Equal(seen, l) || why != api.OK {
		t.Error("a commit that was refused is seen:", seen, why)
	}
	later := begun(t, s)
	if seen, why := s.Scan(later, "", ""); !slices.Equal(seen, l) || why != api.OK {
		t.Error("a commit that was refused is seen later:", seen, why)
	}
	if other != tx+1 && later != other+1 {
		t.Error("a commit that was refused has taken a number")
	}
	must(t, s.Commit(other)) // it has read everything: nothing was written since
	must(t, s.Abort(later))
	lasts(t, d, s, l)
}

// Promise 11.3: transactions that there are not, or that are over.
func TestCommitOfNone(t *testing.T) {
	d, s := formatted(t, 80, 4)
	for _, tx := range []int{0, 1, -1, 1 << 62, -1 << 63} {
		if why := s.Commit(tx); why != api.ErrUnknown {
			t.Error("Commit of", tx, ": error", why)
		}
	}
	tx := writing(t, s, put("a", "1"))
	must(t, s.Commit(tx))
	isOver(t, s, tx)
	tx = writing(t, s, put("a", "2"))
	must(t, s.Abort(tx))
	isOver(t, s, tx)
	lasts(t, d, s, pairs("a", "1"))
	if again := opened(t, d); again.Commit(tx) != api.ErrUnknown {
		t.Error("a store that is opened anew has an open transaction")
	}
}

// Promise 11.3: of a transaction that has written nothing nothing is written, with and without power, whatever it has read.
func TestCommitOfNothing(t *testing.T) {
	d, s := formatted(t, 80, 4)
	must(t, commit(t, s, put("a", "1")))
	writes := d.Writes()
	none, reads, second, third := begun(t, s), begun(t, s), begun(t, s), begun(t, s)
	for _, tx := range []int{reads, third} {
		if v, is, why := s.Get(tx, "a"); v != "1" || !is || why != api.OK {
			t.Error("Get:", v, is, why)
		}
	}
	must(t, s.Commit(none))
	must(t, s.Commit(reads))
	isOver(t, s, none)
	isOver(t, s, reads)
	must(t, d.Cut())
	must(t, s.Commit(second))
	isOver(t, s, second)
	must(t, d.Restore(nil))
	if d.Writes() != writes || s.Room() != 3 {
		t.Error("a commit of nothing writes:", d.Writes()-writes, "Room", s.Room())
	}
	must(t, commit(t, s, put("a", "2")))
	refusesCommit(t, d, s, third, api.ErrConflict)
}

// Promises 11.3 and P10: what conflicts is refused, ahead of all else; two that only write both commit.
func TestCommitThatConflicts(t *testing.T) {
	var tooMany []api.Write
	for i := range 20 {
		tooMany = append(tooMany, put(small('a'+i), strings.Repeat("v", api.MaxValue)))
	}
	for _, l := range [][]api.Write{nil, {put("a", "2")}, {put("z", "2")}, {drop("b")}, tooMany} {
		for _, power := range []bool{true, false} {
			d, s := formatted(t, 80, 1)
			must(t, commit(t, s, put("a", "0")))
			got, scanned := writing(t, s, l...), writing(t, s, l...)
			s.Get(got, "a")
			s.Scan(scanned, "Z", "b")
			must(t, commit(t, s, put("a", "1")))
			if power {
				refusesCommit(t, d, s, got, api.ErrConflict)
				refusesCommit(t, d, s, scanned, api.ErrConflict)
			} else {
				must(t, d.Cut())
				if s.Commit(got) != api.ErrConflict || s.Commit(scanned) != api.ErrConflict {
					t.Error("a conflict without power is told otherwise")
				}
				must(t, d.Restore(nil))
			}
			lasts(t, d, s, pairs("a", "1"))
			must(t, commit(t, s, put("a", "2")))
			lasts(t, d, s, pairs("a", "2"))
		}
	}
	d, s := formatted(t, 80, 4)
	one, two := writing(t, s, put("a", "1")), writing(t, s, put("a", "2"))
	must(t, s.Commit(two))
	must(t, s.Commit(one))
	lasts(t, d, s, pairs("a", "1"))
}

// manyVersions is a store in which an old transaction is open, and there are MaxList versions less some; it has no entry.
func manyVersions(t *testing.T, less int) (*disk.Disk, *kv.Store, int) {
	t.Helper()
	d, s := formatted(t, 80, 4)
	old := begun(t, s)
	for left := api.MaxList - less; left > 0; left -= api.MaxReads {
		var l []api.Write
		for i := range min(left, api.MaxReads) {
			l = append(l, drop(fmt.Sprintf("%03d", i)))
		}
		must(t, commit(t, s, l...))
	}
	return d, s, old
}

// Promise 11.3: ErrMany where txn.Commit would answer it, ahead of ErrFull; one less goes; and all go once the old one is over.
func TestCommitOfTooManyVersions(t *testing.T) {
	var tooMany []api.Write
	for i := range 20 {
		tooMany = append(tooMany, put(small('a'+i), strings.Repeat("v", api.MaxValue)))
	}
	d, s, old := manyVersions(t, 2)
	refusesCommit(t, d, s, writing(t, s, put("a", "1"), put("b", "2"), put("c", "3")), api.ErrMany)
	refusesCommit(t, d, s, writing(t, s, drop("a"), drop("b"), drop("c")), api.ErrMany)
	refusesCommit(t, d, s, writing(t, s, tooMany...), api.ErrMany)
	must(t, d.Cut())
	if why := commit(t, s, drop("a"), drop("b"), drop("c")); why != api.ErrMany {
		t.Error("without power: error", why)
	}
	must(t, d.Restore(nil))
	must(t, commit(t, s, put("a", "1"), put("b", "2")))
	lasts(t, d, s, pairs("a", "1", "b", "2"))
	refusesCommit(t, d, s, writing(t, s, put("a", "3")), api.ErrMany)
	must(t, s.Commit(begun(t, s)))
	must(t, s.Checkpoint())
	refusesCommit(t, d, s, writing(t, s, put("a", "3")), api.ErrMany)
	must(t, s.Abort(old))
	refusesCommit(t, d, s, writing(t, s, tooMany...), api.ErrFull)
	must(t, commit(t, s, put("a", "3")))
	lasts(t, d, s, pairs("a", "3", "b", "2"))
}

// Promises 11.3, 11.8 and P9: Cap entries, of the longest keys and values, and not one more; what leaves no more than that always goes.
func TestUpToCap(t *testing.T) {
	for _, c := range []struct{ sectors, journal, step int }{{35, 1, 4}, {80, 4, 14}, {80, 46, 4}, {300, 60, 13}, {500, 1, 5}, {1024, 60, 41}} {
		d, s := formatted(t, c.sectors, c.journal)
		m := map[string]string{}
		entry := func(i int) api.Write {
			return put(fmt.Sprintf("%0*d", api.MaxKey, i), strings.Repeat(small('a'+i%26), api.MaxValue))
		}
		for len(m) < s.Cap() {
			var l []api.Write
			for i := range min(c.step, s.Cap()-len(m)) {
				l = append(l, entry(len(m)+i))
			}
			must(t, commit(t, s, l...))
			m = done(m, l...)
		}
		lasts(t, d, s, pairsOf(m))
		refusesCommit(t, d, s, writing(t, s, put("x", "")), api.ErrFull)
		refusesCommit(t, d, s, writing(t, s, put("x", ""), put("y", ""), drop(entry(0).Key)), api.ErrFull)
		refusesCommit(t, d, s, writing(t, s, put("x", ""), drop("y"), drop("z")), api.ErrFull)
		must(t, d.Cut())
		if why := commit(t, s, put("x", "")); why != api.ErrFull {
			t.Error("one too many without power: error", why)
		}
		must(t, d.Restore(nil))
		for i := range 2 * s.Cap() {
			l := []api.Write{drop(entry(i).Key), entry(i + s.Cap()), drop("never")}
			must(t, commit(t, s, l...))
			m = done(m, l...)
		}
		lasts(t, d, s, pairsOf(m))
		must(t, s.Checkpoint())
		refusesCommit(t, d, s, writing(t, s, put("x", "")), api.ErrFull)
		must(t, commit(t, s, put(entry(2*s.Cap()).Key, "other")))
		must(t, commit(t, s, drop(entry(2*s.Cap()).Key)))
		must(t, commit(t, s, put("x", "")))
		refusesCommit(t, d, s, writing(t, s, put("y", "")), api.ErrFull)
	}
}

// Promises 11.3 and 11.8: a batch of as many sectors as the journal has goes, however full that is; one byte more is ErrFull.
func TestBatchesAsGreatAsTheJournal(t *testing.T) {
	for _, sectors := range []int{1, 2, 4} {
		d, s := formatted(t, 400, sectors)
		n := 8 * sectors
		for filled := range sectors + 1 {
			for range filled {
				must(t, commit(t, s, put("a", fmt.Sprint(filled))))
			}
			want := s.Pairs()
			refusesCommit(t, d, s, writing(t, s, sized(t, "n", n, sectors*api.Payload+1)...), api.ErrFull)
			must(t, d.Cut())
			if why := commit(t, s, sized(t, "n", n, sectors*api.Payload+1)...); why != api.ErrFull {
				t.Error("a batch too great, without power: error", why)
			}
			must(t, d.Restore(nil))
			lasts(t, d, s, want)
			l := sized(t, "n", n, sectors*api.Payload)
			must(t, commit(t, s, l...))
			if s.Room() != 0 {
				t.Error("Room:", s.Room())
			}
			m := map[string]string{}
			for _, p := range want {
				m[p.Key] = p.Val
			}
			lasts(t, d, s, pairsOf(done(m, l...)))
			must(t, s.Checkpoint())
		}
	}
}

// Promise 11.3: a checkpoint is made first just if the journal has not room for the batch.
func TestWhenACheckpointIsMade(t *testing.T) {
	for filled := range 5 {
		for need := 1; need <= 4; need++ {
			d, s := formatted(t, 400, 4)
			want := map[string]string{}
			for i := range filled {
				must(t, commit(t, s, put("a", fmt.Sprint(i))))
				want["a"] = fmt.Sprint(i)
			}
			l := sized(t, "n", 8*need, need*api.Payload)
			must(t, commit(t, s, l...))
			super, _, batches := onDisk(t, d)
			if isMade := super.Gen > 1; isMade != (filled+need > 4) {
				t.Error("with", filled, "sectors, of", need, "more: a checkpoint:", isMade)
			}
			if filled+need > 4 && (super.Seq != uint64(filled+1) || len(batches) != 1 || s.Room() != 4-need) {
				t.Error("behind the checkpoint:", super, len(batches), s.Room())
			}
			lasts(t, d, s, pairsOf(done(want, l...)))
		}
	}
}

// Promises 11.4 and 11.6: more keys than a list may have are written between two checkpoints, and gone again.
func TestCheckpointOfManyKeys(t *testing.T) {
	d, s := formatted(t, 1024, 900)
	must(t, commit(t, s, put("stays", "1"), put("goes", "2")))
	for round := range 20 {
		var l []api.Write
		for i := range api.MaxReads {
			l = append(l, drop(fmt.Sprintf("%d-%d", round, i)))
		}
		must(t, commit(t, s, l...))
	}
	for round := range 250 {
		var in, out []api.Write
		for i := range 20 {
			in = append(in, put(fmt.Sprintf("%d+%d", round, i), "1"))
			out = append(out, drop(fmt.Sprintf("%d+%d", round, i)))
		}
		must(t, commit(t, s, in...))
		must(t, commit(t, s, out...))
	}
	must(t, commit(t, s, drop("goes")))
	if s.Room() != 900-522 {
		t.Fatal("Room:", s.Room())
	}
	lasts(t, d, s, pairs("stays", "1"))
	again := opened(t, d.Fork())
	must(t, again.Checkpoint())
	has(t, again, pairs("stays", "1"))
	must(t, s.Checkpoint())
	lasts(t, d, s, pairs("stays", "1"))
}

// Promises 11.3 and 11.4: over many checkpoints more keys than a list may have come, and go again.
func TestManyKeysOverManyCheckpoints(t *testing.T) {
	d, s := formatted(t, 200, 2)
	for round := range 120 {
		var in, out []api.Write
		for i := range 40 {
			in = append(in, put(fmt.Sprintf("%d+%d", round, i), "1"))
			out = append(out, drop(fmt.Sprintf("%d+%d", round, i)))
		}
		must(t, commit(t, s, in...))
		must(t, s.Checkpoint())
		must(t, commit(t, s, out...))
		must(t, s.Checkpoint())
	}
	lasts(t, d, s, nil)
}

// Promise P3: what is on the disk hangs on what was done alone.
func TestTheSameTwice(t *testing.T) {
	var first [][]byte
	for range 4 {
		d, s := formatted(t, 400, 4)
		for i := range 12 {
			var l []api.Write
			for k := range 40 {
				l = append(l, api.Write{Key: fmt.Sprint(k * (i + 1)), Val: strings.Repeat("v", i+k), Gone: (k+i)%3 == 0})
			}
			if why := commit(t, s, l...); why != api.OK && why != api.ErrFull {
				t.Fatal("Commit: error", why)
			}
		}
		must(t, s.Checkpoint())
		if first == nil {
			first = sectorsOf(t, d)
		}
		if !sameSectors(first, sectorsOf(t, d)) {
			t.Error("the same has written another disk")
		}
	}
}
