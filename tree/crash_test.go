package tree_test

import (
	"fmt"
	"maps"
	"math/rand/v2"
	"slices"
	"strings"
	"testing"

	"lading/api"
	"lading/node"
	"lading/tree"
)

func decoded(t *testing.T, b []byte) api.Page {
	t.Helper()
	p, why := node.Decode(b)
	must(t, why)
	return p
}

// someFates are lists of fates of all kinds for so many sectors.
func someFates(r *rand.Rand, n int) [][]api.Fate {
	lists := [][]api.Fate{nil}
	for _, f := range []api.Fate{{Kind: api.FateKeep}, {Kind: api.FateTear}, {Kind: api.FateTear, Mask: 1}, {Kind: api.FateTear, Mask: 0x81}, {Kind: api.FateTear, Mask: 0xfe}, {Kind: api.FateTear, Mask: 0xff}} {
		lists = append(lists, slices.Repeat([]api.Fate{f}, n))
	}
	for range 4 {
		var l []api.Fate
		for range n {
			l = append(l, api.Fate{Kind: api.FateKind(r.IntN(3)), Mask: uint8(r.Uint32())})
		}
		lists = append(lists, l)
	}
	return lists
}

// keysAndValues are a tree of several levels, and writes that change much of it.
func keysAndValues() (map[string]string, map[string]string, []api.Write) {
	m := map[string]string{}
	for i := range 40 {
		m[fmt.Sprintf("%0250d", 3*i)] = strings.Repeat("v", 500)
	}
	next, l := maps.Clone(m), []api.Write{}
	for i := range 40 {
		key := fmt.Sprintf("%0250d", 2*i)
		w := api.Write{Key: key, Val: strings.Repeat("n", 400+i), Gone: i%4 == 0}
		l = append(l, w)
		if w.Gone {
			delete(next, key)
		} else {
			next[key] = w.Val
		}
	}
	return m, next, l
}

// isDone tells that a tree takes no more updates, and has what it had.
func isDone(t *testing.T, x *tree.Tree, want []api.Pair) {
	t.Helper()
	for i, l := range [][]api.Write{nil, puts("a", "1"), make([]api.Write, 5000), puts(strings.Repeat("k", 300), ""), puts("a", "", "a", "")} {
		for _, seq := range []uint64{0, 1} {
			if why := x.Update(l, seq); why != api.ErrState {
				t.Fatalf("Update %d behind one that failed: error %d, want %d", i, why, api.ErrState)
			}
		}
	}
	if !slices.Equal(all(t, x), want) || x.Live() != len(want) {
		t.Fatal("behind an Update that failed a tree has other entries")
	}
}

// Promises 8.3 and 8.6: the power goes at each write of an Update, with fates of all kinds: the tree that is opened anew has the entries from ahead of it.
func TestCutWithinUpdate(t *testing.T) {
	r := rand.New(rand.NewPCG(8, 20))
	m, _, l := keysAndValues()
	start, _, x := formatted(t, 300, 4)
	must(t, x.Update(writes(r, m), 1))
	whole := start.Fork()
	_, x = opened(t, whole)
	must(t, x.Update(l, 2))
	n := whole.Writes() - start.Writes()
	if n < 8 {
		t.Fatal("the Update has", n, "writes")
	}
	for count := range n {
		for _, fates := range someFates(r, n) {
			d := start.Fork()
			_, x := opened(t, d)
			must(t, d.Arm(count))
			if why := x.Update(l, 2); why != api.ErrDown {
				t.Fatal("Update with power for", count, "writes: error", why)
			}
			isDone(t, x, pairs(m))
			must(t, d.Restore(fates))
			isDone(t, x, pairs(m))
			p, y := opened(t, d)
			wants(t, d, p, y, pairs(m))
			if p.Super().Seq != 1 {
				t.Fatal("Seq:", p.Super().Seq)
			}
		}
	}
}

// Promise 8.6: the pages of an Update are there, and its superblock was written and not synced: with each of the fates the tree has the entries from ahead of it, or all of those behind it; and an Update goes then.
func TestFatesOfAnUpdate(t *testing.T) {
	r := rand.New(rand.NewPCG(8, 21))
	m, next, l := keysAndValues()
	start, _, x := formatted(t, 300, 4)
	must(t, x.Update(writes(r, m), 1))
	whole := start.Fork()
	p, x := opened(t, whole)
	must(t, x.Update(l, 2))
	sector := int(p.Super().Gen % 2)
	for mask := range 258 {
		fate := api.Fate{Kind: api.FateTear, Mask: uint8(mask)}
		if mask > 255 {
			fate = api.Fate{Kind: api.FateKind(mask - 256)}
		}
		d := start.Fork()
		for i, b := range sectorsOf(t, whole)[2:] {
			must(t, d.Write(2+i, b))
		}
		must(t, d.Sync())
		b, _ := whole.Read(sector)
		must(t, d.Write(sector, b))
		must(t, d.Cut())
		must(t, d.Restore([]api.Fate{fate}))
		want := maps.Clone(m)
		if fate.Kind == api.FateKeep || fate.Kind == api.FateTear && fate.Mask&0x81 == 0x81 {
			want = maps.Clone(next)
		}
		p, x := opened(t, d)
		wants(t, d, p, x, pairs(want))
		must(t, x.Update(puts("more", "1"), 3))
		want["more"] = "1"
		wants(t, d, p, x, pairs(want))
	}
}

// Promise 8.3: an Update without power, of a tree with and without entries, and one that changes nothing.
func TestUpdateWithoutPower(t *testing.T) {
	for _, l := range [][]api.Write{nil, puts("b", "2"), gone("a"), gone("x"), puts("a", "1")} {
		for _, before := range [][]api.Write{nil, puts("a", "1")} {
			d, _, x := formatted(t, 80, 4)
			must(t, x.Update(before, 1))
			want := all(t, x)
			must(t, d.Cut())
			if why := x.Update(l, 1); why != api.ErrDown {
				t.Error("Update without power: error", why)
			}
			isDone(t, x, want)
			must(t, d.Restore(nil))
			p, y := opened(t, d)
			wants(t, d, p, y, want)
		}
	}
}

// Promises 8.3 and 7.6: a pager that failed by itself is of no use for a tree.
func TestFailedPager(t *testing.T) {
	d, p, x := formatted(t, 80, 4)
	must(t, x.Update(puts("a", "1"), 1))
	must(t, d.Arm(0))
	if why := p.Commit(0, 1, 0); why != api.ErrDown {
		t.Fatal("Commit: error", why)
	}
	must(t, d.Restore(nil))
	for _, l := range [][]api.Write{nil, puts("b", "2"), gone("a")} {
		if why := x.Update(l, 1); why != api.ErrState || x.Live() != 1 {
			t.Error("Update: error", why, "Live", x.Live())
		}
	}
}

// Promises 8.5 and 8.6: over long runs of updates and power cuts a tree has what a map has.
func TestLongRunsWithCuts(t *testing.T) {
	for seed := range uint64(24) {
		r := rand.New(rand.NewPCG(seed, 81))
		d, p, x := formatted(t, 50+r.IntN(200), 1+r.IntN(5))
		m := map[string]string{}
		for range 40 {
			next, l := changed(r, m, x.Cap())
			if len(next) > x.Cap() {
				continue
			}
			must(t, d.Arm(r.IntN(1+r.IntN(20))))
			why := x.Update(l, 1+r.Uint64N(9))
			if why == api.OK {
				m = next
				must(t, d.Arm(-1))
				wants(t, d, p, x, pairs(m))
				continue
			}
			if why != api.ErrDown {
				t.Fatalf("seed %d: Update: error %d", seed, why)
			}
			isDone(t, x, pairs(m))
			lists := someFates(r, len(d.Unsynced()))
			must(t, d.Restore(lists[r.IntN(len(lists))]))
			p, x = opened(t, d)
			wants(t, d, p, x, pairs(m))
		}
	}
}

// Promise P4: trees on two disks have nothing to do with one another.
func TestTwoTrees(t *testing.T) {
	d, _, x := formatted(t, 80, 4)
	must(t, x.Update(puts("a", "1"), 1))
	fork := d.Fork()
	q, y := opened(t, fork)
	must(t, y.Update(puts("a", "2", "b", "3"), 1))
	must(t, x.Update(puts("c", "4"), 1))
	if !slices.Equal(all(t, x), []api.Pair{{Key: "a", Val: "1"}, {Key: "c", Val: "4"}}) {
		t.Error("the first tree:", all(t, x))
	}
	wants(t, fork, q, y, []api.Pair{{Key: "a", Val: "2"}, {Key: "b", Val: "3"}})
}
