package tree_test

import (
	"fmt"
	"maps"
	"math"
	"math/rand/v2"
	"slices"
	"strings"
	"testing"

	"lading/api"
	"lading/disk"
	"lading/node"
	"lading/pager"
	"lading/tree"
)

func must(t *testing.T, why api.Errno) {
	t.Helper()
	if why != api.OK {
		t.Fatal("error", why)
	}
}

// opened is the tree of a disk, with a pager of its own.
func opened(t *testing.T, d *disk.Disk) (*pager.Pager, *tree.Tree) {
	t.Helper()
	p, why := pager.Open(d)
	must(t, why)
	x, why := tree.Open(p)
	if x == nil || why != api.OK {
		t.Fatal("Open: error", why)
	}
	return p, x
}

func formatted(t *testing.T, sectors, journal int) (*disk.Disk, *pager.Pager, *tree.Tree) {
	t.Helper()
	d := disk.New(sectors)
	must(t, pager.Format(d, journal))
	p, x := opened(t, d)
	return d, p, x
}

// puts are writes of keys and values in turn.
func puts(words ...string) []api.Write {
	var l []api.Write
	for i := 0; i < len(words); i += 2 {
		l = append(l, api.Write{Key: words[i], Val: words[i+1]})
	}
	return l
}

func gone(keys ...string) []api.Write {
	var l []api.Write
	for _, k := range keys {
		l = append(l, api.Write{Key: k, Gone: true})
	}
	return l
}

// pairs are the entries of a map, rising.
func pairs(m map[string]string) []api.Pair {
	var l []api.Pair
	for _, k := range slices.Sorted(maps.Keys(m)) {
		l = append(l, api.Pair{Key: k, Val: m[k]})
	}
	return l
}

// all are a tree's entries.
func all(t *testing.T, x *tree.Tree) []api.Pair {
	t.Helper()
	l, why := x.Scan("", "", math.MaxInt)
	must(t, why)
	return l
}

// walk goes through the pages from a number on, as the document words a tree: it answers the entries, how many pages there are, and how deep they go.
func walk(t *testing.T, d *disk.Disk, number int, low string, high *string) (l []api.Pair, pages, deep int) {
	t.Helper()
	b, why := d.Read(number)
	must(t, why)
	p, why := node.Decode(b)
	must(t, why)
	for _, k := range p.Keys {
		if string(k) < low || high != nil && string(k) >= *high {
			t.Fatalf("the page %d has the key %q", number, k)
		}
	}
	for i, k := range p.Keys {
		if p.Leaf {
			l = append(l, api.Pair{Key: string(k), Val: string(p.Vals[i])})
		}
	}
	pages = 1
	for i, kid := range p.Kids {
		from, to := low, high
		if i > 0 {
			from = string(p.Keys[i-1])
		}
		if i < len(p.Keys) {
			key := string(p.Keys[i])
			to = &key
		}
		more, n, below := walk(t, d, kid, from, to)
		if i > 0 && below != deep {
			t.Fatalf("the kids of the page %d go %d and %d deep", number, deep, below)
		}
		l, pages, deep = append(l, more...), pages+n, below
	}
	return l, pages, deep + 1
}

// wants holds a tree, its pager and its disk against the entries that there must be. It tells how deep the tree is.
func wants(t *testing.T, d *disk.Disk, p *pager.Pager, x *tree.Tree, want []api.Pair) int {
	t.Helper()
	if got := all(t, x); !slices.Equal(got, want) || x.Live() != len(want) {
		t.Fatalf("the tree has %d entries, Live %d, want %d, or other ones", len(got), x.Live(), len(want))
	}
	var l []api.Pair
	pages, deep := 0, 0
	if root := p.Super().Root; root != 0 {
		l, pages, deep = walk(t, d, root, "", nil)
	}
	if !slices.Equal(l, want) || p.Super().Live != len(want) {
		t.Fatalf("the disk has %d entries, Live %d, want %d, or other ones", len(l), p.Super().Live, len(want))
	}
	if x.Pages() != pages || p.Used() != pages || pages > 2*len(want)+1 {
		t.Fatalf("%d entries on %d pages: Pages %d, Used %d", len(want), pages, x.Pages(), p.Used())
	}
	return deep
}

// Promises 8.2 and 8.3: the chapter's example.
func TestExample(t *testing.T) {
	d, p, x := formatted(t, 80, 4)
	if p.Pages() != 74 || x.Cap() != 14 || x.Live() != 0 || x.Pages() != 0 {
		t.Error("Open:", p.Pages(), x.Cap(), x.Live(), x.Pages())
	}
	must(t, x.Update(puts("a", "1", "b", "2"), 1))
	if x.Live() != 2 || x.Pages() != 1 {
		t.Error("Update:", x.Live(), x.Pages())
	}
	must(t, x.Update(gone("a"), 1))
	wants(t, d, p, x, []api.Pair{{Key: "b", Val: "2"}})
}

// Promise 8.2: there is room for a quarter of the pages less 16, rounded down.
func TestCap(t *testing.T) {
	for _, c := range [][3]int{{35, 1, 4}, {36, 2, 4}, {80, 4, 14}, {81, 4, 14}, {82, 4, 15}, {40, 4, 4}, {1024, 1, 251}, {1024, 990, 4}, {54, 4, 8}, {53, 4, 7}} {
		if _, _, x := formatted(t, c[0], c[1]); x.Cap() != c[2] {
			t.Errorf("Cap with %d sectors and a journal of %d: %d, want %d", c[0], c[1], x.Cap(), c[2])
		}
	}
}

// someTrees are trees of no entry, of one page and of several levels, with what they have.
func someTrees(t *testing.T) map[string]map[string]string {
	t.Helper()
	trees := map[string]map[string]string{
		"none":          {},
		"the empty key": {"": "nothing"},
		"one":           {"k": ""},
		"few":           {"": "e", "a": "1", "ab": "2", "b": "3", "b\x00": "4", "\xff": "5", "\xff\xff": "6"},
	}
	r := rand.New(rand.NewPCG(8, 1))
	for name, size := range map[string][2]int{"small ones": {3, 5}, "middle ones": {40, 300}, "great ones": {256, 512}} {
		m := map[string]string{}
		for len(m) < 251 {
			m[someWord(r, size[0])] = someWord(r, size[1])
		}
		trees[name] = m
	}
	long := map[string]string{}
	for i := range 251 {
		long[fmt.Sprintf("%0256d", i)] = strings.Repeat("v", 512)
	}
	trees["the greatest ones"] = long
	return trees
}

// someWord is of any bytes, as often short as long.
func someWord(r *rand.Rand, most int) string {
	b := make([]byte, r.IntN(most+1)>>r.IntN(3))
	for i := range b {
		b[i] = byte(r.Uint32())
	}
	return string(b)
}

// writes are those that make a tree have what a map has, in no order.
func writes(r *rand.Rand, m map[string]string) []api.Write {
	var l []api.Write
	for _, e := range pairs(m) {
		l = append(l, api.Write{Key: e.Key, Val: e.Val})
	}
	r.Shuffle(len(l), func(i, j int) { l[i], l[j] = l[j], l[i] })
	return l
}

// ends are bounds of every kind: the empty one, keys that are there, such as lie right beside them, and others.
func ends(r *rand.Rand, l []api.Pair) []string {
	bounds := []string{"", "\x00", "a", "\xff", strings.Repeat("\xff", 300)}
	for i, e := range l {
		if i < 2 || i > len(l)-3 || r.IntN(len(l)) < 8 {
			bounds = append(bounds, e.Key, e.Key+"\x00", e.Key[:max(len(e.Key), 1)-1])
		}
	}
	return bounds
}

// Promises 8.2, 8.5 and 8.8: keys are got, and entries scanned, with every kind of bounds, in the tree and in the one that is opened anew.
func TestGetAndScan(t *testing.T) {
	r := rand.New(rand.NewPCG(8, 2))
	deepest := 0
	for name, m := range someTrees(t) {
		d, p, x := formatted(t, 1024, 1)
		must(t, x.Update(writes(r, m), 7))
		deepest = max(deepest, wants(t, d, p, x, pairs(m)))
		q, y := opened(t, d)
		wants(t, d, q, y, pairs(m))
		asks(t, name, r, x, m)
		asks(t, name+", opened anew", r, y, m)
	}
	if deepest < 3 {
		t.Error("no tree has more than", deepest, "levels")
	}
}

// asks holds what a tree answers against a map.
func asks(t *testing.T, name string, r *rand.Rand, x *tree.Tree, m map[string]string) {
	t.Helper()
	l := pairs(m)
	bounds := ends(r, l)
	for _, key := range append(slices.Collect(maps.Keys(m)), bounds...) {
		want, is := m[key]
		if val, has, why := x.Get(key); val != want || has != is || why != api.OK {
			t.Fatalf("%s: Get(%q) = %q, %t, error %d, want %q, %t", name, key, val, has, why, want, is)
		}
	}
	for _, from := range bounds {
		for _, to := range bounds {
			var want []api.Pair
			for _, e := range l {
				if e.Key >= from && (to == "" || e.Key < to) {
					want = append(want, e)
				}
			}
			for _, most := range []int{0, 1, r.IntN(len(want) + 1), len(want), len(want) + 1, math.MaxInt} {
				if got, why := x.Scan(from, to, most); !slices.Equal(got, want[:min(most, len(want))]) || why != api.OK {
					t.Fatalf("%s: Scan(%q, %q, %d): %d entries, error %d, want %d", name, from, to, most, len(got), why, min(most, len(want)))
				}
			}
		}
	}
}

// Promise 8.8: a scan in two parts is the scan: cut at any key, and cut behind as many as were asked for.
func TestScanInParts(t *testing.T) {
	r := rand.New(rand.NewPCG(8, 3))
	for name, m := range someTrees(t) {
		_, _, x := formatted(t, 1024, 1)
		must(t, x.Update(writes(r, m), 1))
		whole := all(t, x)
		for _, mid := range ends(r, whole) {
			if mid == "" {
				continue // as a bound above it is none
			}
			a, _ := x.Scan("", mid, math.MaxInt)
			b, _ := x.Scan(mid, "", math.MaxInt)
			if !slices.Equal(append(a, b...), whole) {
				t.Fatalf("%s: the scan in two parts at %q is another one", name, mid)
			}
		}
		var steps []api.Pair
		for from := ""; ; {
			l, why := x.Scan(from, "", 7)
			must(t, why)
			if len(l) == 0 {
				break
			}
			steps = append(steps, l...)
			from = l[len(l)-1].Key + "\x00"
		}
		if !slices.Equal(steps, whole) {
			t.Fatalf("%s: the scan by steps is another one", name)
		}
	}
}

// Promises 8.2 and P2: a scan of fewer than none.
func TestScanWrong(t *testing.T) {
	_, _, x := formatted(t, 80, 4)
	must(t, x.Update(puts("a", "1"), 1))
	for _, most := range []int{-1, math.MinInt} {
		if l, why := x.Scan("", "", most); len(l) != 0 || why != api.ErrRange {
			t.Errorf("Scan of %d: %d entries, error %d", most, len(l), why)
		}
	}
}

// Promise 8.2: Get and Scan name no error for want of power: they answer without.
func TestWithoutPower(t *testing.T) {
	d, _, x := formatted(t, 80, 4)
	must(t, x.Update(puts("a", "1", "b", "2"), 1))
	must(t, d.Cut())
	if v, is, why := x.Get("b"); v != "2" || !is || why != api.OK {
		t.Error("Get:", v, is, why)
	}
	if l := all(t, x); len(l) != 2 || x.Live() != 2 || x.Pages() != 1 || x.Cap() != 14 {
		t.Error("Scan:", l, x.Live(), x.Pages(), x.Cap())
	}
}

// Promises 8.4 and P1: a tree that is none.
func TestNil(t *testing.T) {
	var x *tree.Tree
	if v, is, why := x.Get("a"); v != "" || is || why != api.ErrNil {
		t.Error("Get of a nil tree:", v, is, why)
	}
	for _, most := range []int{-1, 0, 9} {
		if l, why := x.Scan("", "", most); len(l) != 0 || why != api.ErrNil {
			t.Error("Scan of a nil tree:", l, why)
		}
	}
	for _, l := range [][]api.Write{nil, puts("a", "1"), make([]api.Write, 5000)} {
		if why := x.Update(l, 0); why != api.ErrNil {
			t.Error("Update of a nil tree: error", why)
		}
	}
	if x.Live() != 0 || x.Cap() != 0 || x.Pages() != 0 {
		t.Error("of a nil tree:", x.Live(), x.Cap(), x.Pages())
	}
}

// Promise 8.4: a scan's list is new memory, and a list of writes is neither changed nor kept.
func TestMemory(t *testing.T) {
	d, p, x := formatted(t, 80, 4)
	l := append(make([]api.Write, 0, 9), puts("c", "3", "a", "1", "b", "2")...)
	was := slices.Clone(l[:9])
	must(t, x.Update(l, 1))
	if !slices.Equal(l[:9], was) {
		t.Error("Update: what was handed in was changed")
	}
	for i := range l {
		l[i] = api.Write{Key: "!", Val: "!"}
	}
	want := []api.Pair{{Key: "a", Val: "1"}, {Key: "b", Val: "2"}, {Key: "c", Val: "3"}}
	got := all(t, x)
	for i := range got[:cap(got)] {
		got[:cap(got)][i] = api.Pair{Key: "?", Val: "?"}
	}
	wants(t, d, p, x, want)
	a, _ := x.Scan("", "", 2)
	b, _ := x.Scan("", "", 3)
	if a = append(a, api.Pair{Key: "?"}); len(a) != 3 || !slices.Equal(b, want) {
		t.Error("Scan: answers share memory")
	}
}
