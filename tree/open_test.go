package tree_test

import (
	"math"
	"slices"
	"testing"

	"lading/api"
	"lading/disk"
	"lading/node"
	"lading/pager"
	"lading/tree"
)

func leaf(words ...string) api.Page {
	p := api.Page{Leaf: true}
	for i := 0; i < len(words); i += 2 {
		p.Keys, p.Vals = append(p.Keys, []byte(words[i])), append(p.Vals, []byte(words[i+1]))
	}
	return p
}

// inner is a page of kids, with keys between them.
func inner(kids []int, keys ...string) api.Page {
	p := api.Page{Kids: kids}
	for _, k := range keys {
		p.Keys = append(p.Keys, []byte(k))
	}
	return p
}

// laid is a disk of 80 sectors with these pages from the sector 6 on, the first one being the root, and so many entries said to be there.
func laid(t *testing.T, live int, pages ...api.Page) *disk.Disk {
	t.Helper()
	d := disk.New(80)
	must(t, pager.Format(d, 4))
	p, why := pager.Open(d)
	must(t, why)
	root := 0
	for i, page := range pages {
		number, why := p.Alloc()
		must(t, why)
		b, why := node.Encode(page)
		must(t, why)
		must(t, p.Write(number, b))
		if i == 0 {
			root = number
		}
	}
	must(t, p.Commit(root, 3, live))
	return d
}

// pagesCase are pages that are a tree, or none.
type pagesCase struct {
	name  string
	live  int
	pages []api.Page
}

func pagesThatAreATree() []pagesCase {
	empty := leaf()
	return []pagesCase{
		{"no page", 0, nil},
		{"a leaf without an entry", 0, []api.Page{empty}},
		{"a leaf", 2, []api.Page{leaf("a", "1", "b", "2")}},
		{"a page that does not hang there", 1, []api.Page{leaf("a", "1"), leaf("b", "2")}},
		{"two leaves, the key being the second one's first", 2, []api.Page{inner([]int{7, 8}, "b"), leaf("a", "1"), leaf("b", "2")}},
		{"two leaves, the key being between", 2, []api.Page{inner([]int{8, 7}, "ab"), leaf("b", "2"), leaf("a", "1")}},
		{"an empty first leaf", 1, []api.Page{inner([]int{7, 8}, "b"), empty, leaf("b", "2")}},
		{"an empty first leaf below the empty key", 1, []api.Page{inner([]int{7, 8}, ""), empty, leaf("", "2")}},
		{"an empty last leaf", 1, []api.Page{inner([]int{7, 8}, "b"), leaf("a", "1"), empty}},
		{"two empty leaves", 0, []api.Page{inner([]int{7, 8}, "b"), empty, empty}},
		{"three empty leaves among five", 2, []api.Page{inner([]int{7, 8, 9, 10, 11}, "b", "c", "d", "e"), empty, leaf("b", "1"), empty, leaf("d", "2"), empty}},
		{"three levels", 4, []api.Page{
			inner([]int{7, 8}, "m"), inner([]int{9, 10}, "b"), inner([]int{11, 12}, "z"),
			leaf("a", "1"), leaf("b", "2"), leaf("m", "3"), leaf("z", "4"),
		}},
		{"three levels, a key there again at its bound", 2, []api.Page{
			inner([]int{7, 8}, "m"), inner([]int{9, 10}, "b"), inner([]int{11, 12}, "m"),
			leaf("a", "1"), empty, empty, leaf("z", "4"),
		}},
	}
}

// Promises 8.1, 8.2 and 8.5: pages that are a tree are opened as that, and kept, and can be updated.
func TestOpenHandMade(t *testing.T) {
	for _, c := range pagesThatAreATree() {
		d := laid(t, c.live, c.pages...)
		p, x := opened(t, d)
		m := map[string]string{}
		if p.Super().Root != 0 {
			l, pages, _ := walk(t, d, p.Super().Root, "", nil)
			for _, e := range l {
				m[e.Key] = e.Val
			}
			if x.Pages() != pages || p.Used() != pages {
				t.Errorf("%s: %d pages, %d used, want %d", c.name, x.Pages(), p.Used(), pages)
			}
		}
		if !slices.Equal(all(t, x), pairs(m)) || x.Live() != len(m) || len(m) != c.live {
			t.Errorf("%s: %v, Live %d", c.name, all(t, x), x.Live())
		}
		for key, want := range m {
			if v, is, why := x.Get(key); v != want || !is || why != api.OK {
				t.Errorf("%s: Get(%q) = %q, %t, error %d", c.name, key, v, is, why)
			}
		}
		must(t, x.Update(puts("q", "new"), 4))
		m["q"] = "new"
		wants(t, d, p, x, pairs(m))
		p, x = opened(t, d)
		wants(t, d, p, x, pairs(m))
	}
}

func pagesThatAreNone() []pagesCase {
	a, b, empty := leaf("a", "1"), leaf("b", "2"), leaf()
	return []pagesCase{
		{"no page, but an entry", 1, nil},
		{"a leaf with an entry less", 2, []api.Page{a}},
		{"a leaf with an entry more", 0, []api.Page{a}},
		{"an empty leaf, but an entry", 1, []api.Page{empty}},
		{"two leaves with an entry less", 3, []api.Page{inner([]int{7, 8}, "b"), a, b}},
		{"two leaves with an entry more", 1, []api.Page{inner([]int{7, 8}, "b"), a, b}},
		{"a kid that was never written", 1, []api.Page{inner([]int{7, 8}, "b"), a}},
		{"a kid that is a superblock", 1, []api.Page{inner([]int{7, 1}, "b"), a}},
		{"a kid in the journal", 1, []api.Page{inner([]int{7, 5}, "b"), a}},
		{"a kid behind the disk", 1, []api.Page{inner([]int{7, 80}, "b"), a}},
		{"a kid far behind the disk", 1, []api.Page{inner([]int{7, 1023}, "b"), a}},
		{"a page that is its own kid", 1, []api.Page{inner([]int{7, 6}, "b"), a}},
		{"a page that is its own first kid", 1, []api.Page{inner([]int{6, 7}, "b"), b}},
		{"two pages that are each other's kids", 1, []api.Page{inner([]int{7, 8}, "b"), inner([]int{6, 9}, "a"), b, a}},
		{"an empty leaf that is there twice", 0, []api.Page{inner([]int{7, 7}, "b"), empty}},
		{"an empty leaf that is there twice, with another one between", 1, []api.Page{inner([]int{7, 8, 7}, "b", "c"), empty, b}},
		{"a key that is the one behind it", 2, []api.Page{inner([]int{7, 8}, "a"), a, b}},
		{"a key ahead that is above", 2, []api.Page{inner([]int{7, 8}, "b"), leaf("c", "1"), leaf("d", "2")}},
		{"a last key ahead that is above", 3, []api.Page{inner([]int{7, 8}, "b"), leaf("a", "1", "bb", "2"), leaf("c", "2")}},
		{"a key behind that is below", 2, []api.Page{inner([]int{7, 8}, "c"), a, b}},
		{"a middle leaf that is above", 3, []api.Page{inner([]int{7, 8, 9}, "b", "c"), a, leaf("c", "2"), leaf("d", "3")}},
		{"a key ahead of the empty one", 2, []api.Page{inner([]int{7, 8}, ""), a, b}},
		{"a key ahead of the empty one that is not counted", 1, []api.Page{inner([]int{7, 8}, ""), a, b}},
		{"a last leaf that is below", 3, []api.Page{inner([]int{7, 8, 9}, "b", "d"), a, b, leaf("c", "3")}},
		{"leaves in the wrong order", 2, []api.Page{inner([]int{8, 7}, "b"), a, b}},
		{"kids of two depths", 3, []api.Page{inner([]int{7, 8}, "m"), a, inner([]int{9, 10}, "n"), leaf("m", "1"), leaf("n", "2")}},
		{"kids of two depths the other way", 3, []api.Page{inner([]int{7, 8}, "m"), inner([]int{9, 10}, "b"), leaf("m", "1"), a, b}},
		{"a last kid of another depth", 3, []api.Page{inner([]int{7, 8, 9}, "b", "m"), a, b, inner([]int{10, 11}, "n"), empty, leaf("n", "1")}},
		{"three levels, an entry outside of the highest bound below", 3, []api.Page{
			inner([]int{7, 8}, "m"), inner([]int{9, 10}, "b"), inner([]int{11, 12}, "n"), a, leaf("b", "2", "m", "3"), empty, empty,
		}},
		{"three levels, an entry outside of the highest bound above", 3, []api.Page{
			inner([]int{7, 8}, "m"), inner([]int{9, 10}, "b"), inner([]int{11, 12}, "n"), a, b, leaf("l", "3"), empty,
		}},
		{"three levels, a key outside of the highest bound below", 2, []api.Page{
			inner([]int{7, 8}, "m"), inner([]int{9, 10}, "m"), inner([]int{11, 12}, "n"), leaf("a", "1", "b", "2"), empty, empty, empty,
		}},
		{"three levels, a key outside of the highest bound above", 0, []api.Page{
			inner([]int{7, 8}, "m"), inner([]int{9, 10}, "b"), inner([]int{11, 12}, "l"), empty, empty, empty, empty,
		}},
	}
}

// isNoTree tells that Open refuses a disk's pages, each time that it is asked, and leaves the pager as it was.
func isNoTree(t *testing.T, name string, d *disk.Disk) {
	t.Helper()
	p, why := pager.Open(d)
	must(t, why)
	for range 2 {
		if x, why := tree.Open(p); x != nil || why != api.ErrCode {
			t.Errorf("Open of %s: error %d, want %d", name, why, api.ErrCode)
		}
		if p.Used() != 0 {
			t.Errorf("Open of %s: %d pages are used", name, p.Used())
		}
	}
}

// Promises 8.1 and P2: pages that are no tree, and a wrong Live.
func TestOpenNoTree(t *testing.T) {
	for _, c := range pagesThatAreNone() {
		isNoTree(t, c.name, laid(t, c.live, c.pages...))
	}
}

// Promise 8.1: a byte that is another one, in a root or further down.
func TestOpenSpoilt(t *testing.T) {
	for number := 6; number < 9; number++ {
		for _, at := range []int{0, 1, 5, 100, 4091, 4092, 4095} {
			d := laid(t, 2, inner([]int{7, 8}, "b"), leaf("a", "1"), leaf("b", "2"))
			b, why := d.Read(number)
			must(t, why)
			b[at] ^= 4
			must(t, d.Write(number, b))
			isNoTree(t, "a spoilt page", d)
		}
	}
	d := laid(t, 0, leaf())
	must(t, d.Write(6, nil))
	isNoTree(t, "noughts", d)
}

// Promises 8.1, P2 and P3: no pager; no power, with which nothing is changed: with power again the same pager is opened.
func TestOpenWrong(t *testing.T) {
	if x, why := tree.Open(nil); x != nil || why != api.ErrNil {
		t.Error("Open of no pager: error", why)
	}
	for _, d := range []*disk.Disk{laid(t, 2, inner([]int{7, 8}, "b"), leaf("a", "1"), leaf("b", "2")), laid(t, 7, leaf("a", "1"))} {
		p, why := pager.Open(d)
		must(t, why)
		must(t, d.Cut())
		for range 2 {
			if x, why := tree.Open(p); x != nil || why != api.ErrDown || p.Used() != 0 {
				t.Error("Open without power: error", why, "used", p.Used())
			}
		}
		must(t, d.Restore(nil))
		want := api.OK
		if p.Super().Live == 7 {
			want = api.ErrCode
		}
		if x, why := tree.Open(p); (x != nil) != (want == api.OK) || why != want {
			t.Error("Open with power again: error", why)
		}
	}
}

// Promise 8.1: where there is no page to be read, no power is wanted.
func TestOpenEmptyWithoutPower(t *testing.T) {
	d := laid(t, 0)
	p, why := pager.Open(d)
	must(t, why)
	must(t, d.Cut())
	if x, why := tree.Open(p); x == nil || why != api.OK || x.Live() != 0 {
		t.Error("Open of nothing without power: error", why)
	}
	if x, why := tree.Open(p); x == nil || why != api.OK {
		t.Error("Open of nothing again: error", why)
	}
}

// Promise 8.1: of a pager behind an ErrDown no page can be read.
func TestOpenFailedPager(t *testing.T) {
	d := laid(t, 1, leaf("a", "1"))
	p, why := pager.Open(d)
	must(t, why)
	must(t, d.Arm(0))
	if why := p.Commit(0, 1, 0); why != api.ErrDown {
		t.Fatal("Commit: error", why)
	}
	for range 2 {
		if x, why := tree.Open(p); x != nil || why != api.ErrDown {
			t.Error("Open: error", why)
		}
		d.Restore(nil)
	}
}

// Promise 8.1: the pages of a tree are kept, the others are free.
func TestOpenKeeps(t *testing.T) {
	d := laid(t, 2, inner([]int{9, 8}, "b"), leaf("x", "unused"), leaf("b", "2"), leaf("a", "1"))
	p, x := opened(t, d)
	for _, page := range []int{6, 8, 9} {
		if w1, w2 := p.Write(page, nil), p.Keep([]int{page}); w1 != api.ErrState || w2 != api.ErrTwice {
			t.Error("the page", page, "is not kept:", w1, w2)
		}
		if _, why := p.Page(page); why != api.OK {
			t.Error("the page", page, "is free")
		}
	}
	for _, want := range []int{7, 10} {
		if page, why := p.Alloc(); page != want || why != api.OK {
			t.Error("Alloc:", page, why, "want", want)
		}
	}
	if x.Pages() != 3 || p.Used() != 5 {
		t.Error("Pages:", x.Pages(), "Used:", p.Used())
	}
}

// Promise 8.1: a pager of which pages are given out already: they stay so, whether the tree is opened or not.
func TestOpenBesideOthers(t *testing.T) {
	for _, live := range []int{1, 2} {
		d := laid(t, live, leaf("a", "1"))
		p, why := pager.Open(d)
		must(t, why)
		must(t, p.Keep([]int{7, 8}))
		must(t, p.Free(8))
		x, why := tree.Open(p)
		if live == 1 && (x == nil || why != api.OK || p.Used() != 3) || live == 2 && (x != nil || why != api.ErrCode || p.Used() != 2) {
			t.Error("Open: error", why, "used", p.Used())
		}
		if w1, w2 := p.Free(7), p.Free(8); w1 != api.OK || w2 != api.ErrState {
			t.Error("the pages of others are changed:", w1, w2)
		}
	}
	d := laid(t, 1, leaf("a", "1"))
	p, _ := pager.Open(d)
	p.Alloc()
	if x, why := tree.Open(p); x != nil || why != api.ErrCode || p.Used() != 1 {
		t.Error("Open while its root is given out: error", why)
	}
}

// Promise 8.2: a tree that has more entries than there is room for is read; an Update is refused till there are no more than that.
func TestMoreThanCap(t *testing.T) {
	var words []string
	for c := 'a'; c < 'u'; c++ {
		words = append(words, string(c), "1")
	}
	d := laid(t, 20, leaf(words...))
	p, x := opened(t, d)
	if x.Live() != 20 || x.Cap() != 14 || len(all(t, x)) != 20 {
		t.Fatal("Open:", x.Live(), x.Cap())
	}
	if w1, w2 := x.Update(nil, 1), x.Update(gone("a", "b", "c", "d", "e"), 1); w1 != api.ErrFull || w2 != api.ErrFull {
		t.Error("Update: errors", w1, w2)
	}
	must(t, x.Update(gone("a", "b", "c", "d", "e", "f"), 1))
	l, _ := x.Scan("", "", math.MaxInt)
	wants(t, d, p, x, l)
	if x.Live() != 14 {
		t.Error("Live:", x.Live())
	}
}
