package kv_test

import (
	"fmt"
	"math/rand/v2"
	"reflect"
	"slices"
	"strings"
	"testing"

	"lading/api"
	"lading/disk"
	"lading/kv"
)

// isDone tells that a store, of which a transaction was open, answers ErrState ahead of all else, and has what it had.
func isDone(t *testing.T, s *kv.Store, tx int, want []api.Pair) {
	t.Helper()
	for _, x := range everyStep(tx) {
		for _, a := range []api.TxAnswer{asked(s, x), s.Do(x)} {
			if !reflect.DeepEqual(plain(a), api.TxAnswer{Why: api.ErrState}) {
				t.Fatalf("%+v behind a power cut: %+v", x, a)
			}
		}
	}
	for _, kind := range []api.TxKind{api.TxNone, api.TxCount, 255} {
		answers(t, s, api.TxStep{Kind: kind, Tx: tx}, api.TxAnswer{Why: api.ErrType})
	}
	if why := s.Checkpoint(); why != api.ErrState {
		t.Fatal("Checkpoint behind a power cut: error", why)
	}
	has(t, s, want)
}

// deed is a Commit or a Checkpoint, of a store that stands as start does, by which next is to be what there is.
type deed struct {
	name  string
	start *disk.Disk
	next  map[string]string
	do    func(t *testing.T, s *kv.Store) api.Errno
}

func committing(l ...api.Write) func(*testing.T, *kv.Store) api.Errno {
	return func(t *testing.T, s *kv.Store) api.Errno { return commit(t, s, l...) }
}

func checkpointing(t *testing.T, s *kv.Store) api.Errno { return s.Checkpoint() }

// full is a store's disk with a tree of several levels, and so many sectors of its journal of 6 in use; and what there is.
func full(t *testing.T, used int) (*disk.Disk, map[string]string) {
	t.Helper()
	d, s := formatted(t, 300, 6)
	m := map[string]string{}
	for i := range 15 {
		w := put(fmt.Sprintf("%0250d", 3*i), strings.Repeat(small('a'+i%26), 500))
		must(t, commit(t, s, w))
		m = done(m, w)
	}
	must(t, s.Checkpoint())
	for i := range used {
		w := put(fmt.Sprintf("%0250d", 5*i), fmt.Sprint("new", i))
		l := []api.Write{w, drop(fmt.Sprintf("%0250d", 9*i+6))}
		must(t, commit(t, s, l...))
		m = done(m, l...)
	}
	if s.Room() != 6-used {
		t.Fatal("Room:", s.Room())
	}
	return d, m
}

// deeds are commits of one sector and of several, with and without a checkpoint ahead, and checkpoints.
func deeds(t *testing.T) []deed {
	t.Helper()
	var l []deed
	one := []api.Write{put("m", "1"), drop(fmt.Sprintf("%0250d", 3)), put(fmt.Sprintf("%0250d", 12), "2")}
	three := sized(t, "n", 24, 3*api.Payload)
	six := append(sized(t, "o", 2*24-1, 6*api.Payload-700), drop(fmt.Sprintf("%0250d", 12)))
	if n := batchSize(six...); n <= 5*api.Payload || n > 6*api.Payload {
		t.Fatal("another batch:", n)
	}
	add := func(name string, used int, writes ...api.Write) {
		d, m := full(t, used)
		do := checkpointing
		if len(writes) > 0 {
			do = committing(writes...)
		}
		l = append(l, deed{name, d, done(m, writes...), do})
	}
	add("a checkpoint of nothing", 0)
	add("a checkpoint", 5)
	add("a commit of a sector", 2, one...)
	add("a commit of three sectors", 2, three...)
	add("a commit of three sectors to the end", 3, three...)
	add("a commit of a sector, with a checkpoint", 6, one...)
	add("a commit of three sectors, with a checkpoint", 4, three...)
	add("a commit of all sectors", 0, six...)
	add("a commit of all sectors, with a checkpoint", 1, six...)
	return l
}

// Promises 11.2, 11.3, 11.4 and 11.7: the power goes at every single write of a Commit and of a Checkpoint, with fates of every kind: every call behind it is ErrState, and a store that is opened anew has what there was ahead of it, or all of the writes; and goes on.
func TestCutWithin(t *testing.T) {
	r := rand.New(rand.NewPCG(11, 7))
	for _, c := range deeds(t) {
		before := opened(t, c.start.Fork()).Pairs()
		whole := c.start.Fork()
		must(t, c.do(t, opened(t, whole)))
		has(t, opened(t, whole), pairsOf(c.next))
		n := whole.Writes() - c.start.Writes()
		for count := range n {
			for _, fates := range someFates(r, n) {
				d := c.start.Fork()
				s := opened(t, d)
				other := writing(t, s, put("other", "1"))
				must(t, d.Arm(count))
				if why := c.do(t, s); why != api.ErrDown {
					t.Fatal(c.name, "with power for", count, "writes: error", why)
				}
				isDone(t, s, other, before)
				must(t, d.Restore(fates))
				isDone(t, s, other, before)
				goesOn(t, d, before, pairsOf(c.next))
			}
		}
	}
}

// goesOn tells that the store of a disk has one of two lists of entries, and that a commit and a checkpoint go.
func goesOn(t *testing.T, d *disk.Disk, before, next []api.Pair) {
	t.Helper()
	s := opened(t, d)
	want := s.Pairs()
	if !slices.Equal(want, before) && !slices.Equal(want, next) {
		t.Fatalf("opened anew: %d entries, neither the %d from ahead nor the %d from behind", len(want), len(before), len(next))
	}
	lasts(t, d, s, want)
	must(t, commit(t, s, put("\xff\xff", "more")))
	want = append(want, api.Pair{Key: "\xff\xff", Val: "more"})
	lasts(t, d, s, want)
	must(t, s.Checkpoint())
	lasts(t, d, s, want)
}

// Promise 11.7: all sectors of a commit were written, and none synced: with each of the fates a store has all of its writes, or none.
func TestFatesOfACommit(t *testing.T) {
	r := rand.New(rand.NewPCG(11, 8))
	for _, c := range deeds(t) {
		if strings.Contains(c.name, "checkpoint") {
			continue
		}
		before := opened(t, c.start.Fork()).Pairs()
		whole := c.start.Fork()
		must(t, c.do(t, opened(t, whole)))
		news := sectorsOf(t, whole)
		var changed []int
		for i, b := range sectorsOf(t, c.start) {
			if !slices.Equal(b, news[i]) {
				changed = append(changed, i)
			}
		}
		lists := someFates(r, len(changed))
		for mask := range 256 {
			one := slices.Repeat([]api.Fate{{Kind: api.FateKeep}}, len(changed))
			one[r.IntN(len(one))] = api.Fate{Kind: api.FateTear, Mask: uint8(mask)}
			lists = append(lists, one)
		}
		there := 0
		for _, fates := range lists {
			d := c.start.Fork()
			for _, i := range changed {
				must(t, d.Write(i, news[i]))
			}
			must(t, d.Cut())
			must(t, d.Restore(fates))
			if slices.Equal(opened(t, d.Fork()).Pairs(), pairsOf(c.next)) {
				there++
			}
			goesOn(t, d, before, pairsOf(c.next))
		}
		if there == 0 || there == len(lists) {
			t.Error(c.name, "is there with", there, "of", len(lists), "fates")
		}
	}
}

// Promise 11.7: a checkpoint's pages are there, and its superblock was written and not synced: with each of the fates a store has what there was.
func TestFatesOfACheckpoint(t *testing.T) {
	start, m := full(t, 5)
	whole := start.Fork()
	must(t, opened(t, whole).Checkpoint())
	super, _, _ := onDisk(t, whole)
	sector := int(super.Gen % 2)
	for mask := range 258 {
		fate := api.Fate{Kind: api.FateTear, Mask: uint8(mask)}
		if mask > 255 {
			fate = api.Fate{Kind: api.FateKind(mask - 256)}
		}
		d := start.Fork()
		for i, b := range sectorsOf(t, whole)[2:] {
			must(t, d.Write(2+i, b))
		}
		must(t, d.Sync())
		b, why := whole.Read(sector)
		must(t, why)
		must(t, d.Write(sector, b))
		must(t, d.Cut())
		must(t, d.Restore([]api.Fate{fate}))
		room := 1
		if fate.Kind == api.FateKeep || fate.Kind == api.FateTear && fate.Mask&0x81 == 0x81 {
			room = 6
		}
		if s := opened(t, d); s.Room() != room {
			t.Error("Room:", s.Room(), "and not", room)
		}
		goesOn(t, d, pairsOf(m), pairsOf(m))
	}
}

// Promises 11.3 and 11.4: without power a Commit and a Checkpoint are ErrDown, and the store is done for.
func TestWithoutPower(t *testing.T) {
	for _, do := range []func(*testing.T, *kv.Store) api.Errno{committing(put("b", "2")), committing(drop("x")), committing(put("a", "1")), checkpointing} {
		for _, journal := range []int{1, 4} {
			d, s := formatted(t, 80, journal)
			must(t, commit(t, s, put("a", "1")))
			other := writing(t, s, put("c", "3"))
			must(t, d.Cut())
			if why := do(t, s); why != api.ErrDown {
				t.Error("without power: error", why)
			}
			isDone(t, s, other, pairs("a", "1"))
			must(t, d.Restore(nil))
			isDone(t, s, other, pairs("a", "1"))
			lastsAnew(t, d, pairs("a", "1"))
		}
	}
}

func lastsAnew(t *testing.T, d *disk.Disk, want []api.Pair) {
	t.Helper()
	lasts(t, d, opened(t, d), want)
}

// Promise 11.7: cut once more, wherever the power went the first time, and whatever is opened anew between.
func TestCutTwice(t *testing.T) {
	r := rand.New(rand.NewPCG(11, 9))
	start, m := full(t, 6)
	w, v := put("first", "1"), put("second", "2")
	for range 150 {
		d := start.Fork()
		s := opened(t, d)
		must(t, d.Arm(r.IntN(20)))
		why := commit(t, s, w)
		want := done(m, w)
		if why != api.OK {
			lists := someFates(r, 20)
			must(t, d.Restore(lists[r.IntN(len(lists))]))
			s = opened(t, d)
			if want = m; s.Live() > len(m) {
				want = done(m, w)
			}
			has(t, s, pairsOf(want))
		}
		must(t, d.Arm(r.IntN(20)))
		if commit(t, s, v) == api.OK {
			want = done(want, v)
			lasts(t, d, s, pairsOf(want))
			continue
		}
		lists := someFates(r, 20)
		must(t, d.Restore(lists[r.IntN(len(lists))]))
		goesOn(t, d, pairsOf(want), pairsOf(done(want, v)))
	}
}
