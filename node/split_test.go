package node_test

import (
	"bytes"
	"strings"
	"testing"

	"lading/api"
	"lading/node"
)

// middle is how many entries the first half of a leaf has, as the document words it.
func middle(p api.Page) int {
	half := (len(text(p)) + 4) / 2
	for i := 1; i < len(p.Keys)-1; i++ {
		if len(text(api.Page{Leaf: true, Keys: p.Keys[:i], Vals: p.Vals[:i]}))+4 >= half {
			return i
		}
	}
	return len(p.Keys) - 1
}

// halves are Split's answers, as the document words them.
func halves(p api.Page) (api.Page, []byte, api.Page) {
	if p.Leaf {
		i := middle(p)
		return api.Page{Leaf: true, Keys: p.Keys[:i], Vals: p.Vals[:i]}, p.Keys[i], api.Page{Leaf: true, Keys: p.Keys[i:], Vals: p.Vals[i:]}
	}
	i := len(p.Keys) / 2
	return api.Page{Keys: p.Keys[:i], Kids: p.Kids[:i+1]}, p.Keys[i], api.Page{Keys: p.Keys[i+1:], Kids: p.Kids[i+1:]}
}

// Promise 6.4: the chapter's example, and leaves at the ends of where they are split.
func TestSplitExamples(t *testing.T) {
	great := strings.Repeat("v", 512)
	cases := []struct {
		name      string
		p         api.Page
		first     int // keys of the first half
		between   string
		firstKids int
	}{
		{"the example", leaf("a", "1", "b", "2"), 1, "b", 0},
		{"three alike", leaf("a", "1", "b", "2", "c", "3"), 1, "b", 0},
		{"four alike", leaf("a", "1", "b", "2", "c", "3", "d", "4"), 2, "c", 0},
		{"a great first entry", leaf("a", great, "b", "", "c", "", "d", ""), 1, "b", 0},
		{"a great last entry", leaf("a", "", "b", "", "c", "", "d", great), 3, "d", 0},
		{"a great entry between", leaf("a", "", "b", great, "c", "", "d", ""), 2, "c", 0},
		{"two, the second one great", leaf("a", "", "b", great), 1, "b", 0},
		// the leaf of a and its value has the size 6 + 3 + 2 = 11, half of the whole 22 or 23, and less than half of 24
		{"just half", leaf("a", "12", "b", "123", "c", "12"), 1, "b", 0},
		{"half rounded down", leaf("a", "12", "b", "1234", "c", "12"), 1, "b", 0},
		{"less than half", leaf("a", "12", "b", "12345", "c", "12"), 2, "c", 0},
		{"the least inner page", inner(1, "a", "b", "c"), 1, "b", 2},
		{"an inner page of four keys", inner(1, "a", "b", "c", "d"), 2, "c", 3},
		{"an inner page of five keys", inner(1, "a", "b", "c", "d", "e"), 2, "c", 3},
	}
	for _, c := range cases {
		a, k, b, why := node.Split(c.p)
		if len(a.Keys) != c.first || string(k) != c.between || len(a.Kids) != c.firstKids || why != api.OK {
			t.Errorf("Split of %s: %s, %s, %s, error %d", c.name, a.Keys, k, b.Keys, why)
		}
	}
}

// Promises 6.4, P2 and P3: pages that are too small to be split.
func TestSplitWrong(t *testing.T) {
	for _, p := range []api.Page{leaf(), leaf("a", "1"), leaf(strings.Repeat("k", 256), strings.Repeat("v", 512)), inner(1, "a"), inner(1, "a", "b")} {
		if a, k, b, why := node.Split(p); !isZero(a) || len(k) != 0 || !isZero(b) || why != api.ErrRange {
			t.Errorf("Split of %d keys: error %d", len(p.Keys), why)
		}
	}
}

// Promises 6.4, 6.5 and 6.8: halves are what the document says, right, apart by the key between, and the page when they are put together.
func TestSplitAndMerge(t *testing.T) {
	count := 0
	for i, p := range pages(t) {
		if len(p.Keys) < 2 || !p.Leaf && len(p.Keys) < 3 {
			continue
		}
		count++
		a, k, b, why := node.Split(p)
		wantA, wantK, wantB := halves(p)
		if !same(a, wantA) || !bytes.Equal(k, wantK) || !same(b, wantB) || why != api.OK {
			t.Fatalf("Split of the page %d: %d and %d keys, error %d, want %d and %d", i, len(a.Keys), len(b.Keys), why, len(wantA.Keys), len(wantB.Keys))
		}
		if node.Check(a) != api.OK || node.Check(b) != api.OK {
			t.Fatalf("Split of the page %d: halves that are not right", i)
		}
		if last := a.Keys[len(a.Keys)-1]; bytes.Compare(last, k) >= 0 || bytes.Compare(b.Keys[0], k) < 0 {
			t.Fatalf("Split of the page %d: the key is not between", i)
		}
		if m, why := node.Merge(a, k, b); !same(m, p) || why != api.OK {
			t.Fatalf("Merge of the halves of the page %d: error %d", i, why)
		}
	}
	if count < 100 {
		t.Errorf("only %d pages were split", count)
	}
}

// Promises 6.5, P2 and P3: Merge's errors in their order, with nothing beside them.
func TestMergeWrong(t *testing.T) {
	long := strings.Repeat("k", 257)
	full, fullIn := fullLeaf(t, 4096), fullInner(t, 4096)
	cases := []struct {
		name string
		a    api.Page
		key  string
		b    api.Page
		why  api.Errno
	}{
		{"a leaf and an inner page", leaf("a", "1"), "b", inner(1, "c"), api.ErrType},
		{"an inner page and a leaf", inner(1, "a"), "b", leaf("c", "1"), api.ErrType},
		{"two kinds and a long key", inner(1, "a"), long, leaf("c", "1"), api.ErrType},
		{"inner pages and a long key", inner(1, "a"), long, inner(5, "z"), api.ErrLong},
		{"inner pages that fall and a long key", inner(1, "z"), long, inner(5, "a"), api.ErrLong},
		{"too great inner pages and a long key", fullIn, long, fullIn, api.ErrLong},
		{"leaves that fall", leaf("b", "1"), "", leaf("a", "1"), api.ErrRange},
		{"leaves with one key", leaf("a", "1"), "", leaf("a", "1"), api.ErrRange},
		{"leaves that lie within one another", leaf("a", "1", "c", "1"), "b", leaf("b", "1", "d", "1"), api.ErrRange},
		{"inner pages that fall", inner(1, "c"), "b", inner(5, "a"), api.ErrRange},
		{"a key that is the first page's last one", inner(1, "a", "b"), "b", inner(5, "c"), api.ErrRange},
		{"a key that is the second page's first one", inner(1, "a"), "c", inner(5, "c", "d"), api.ErrRange},
		{"a key ahead of both", inner(1, "b"), "a", inner(5, "c"), api.ErrRange},
		{"a key behind both", inner(1, "a"), "d", inner(5, "c"), api.ErrRange},
		{"too great leaves that fall", full, "", full, api.ErrRange},
		{"too great inner pages that fall", fullIn, "zz", fullIn, api.ErrRange},
		{"a full leaf and one more", leaf("", ""), "", full, api.ErrFull},
		{"leaves one byte too great", leaf("", ""), "", fullLeaf(t, 4095), api.ErrFull},
		{"a full inner page and one more", inner(1, ""), "\x00", fullIn, api.ErrFull},
	}
	for _, c := range cases {
		if p, why := node.Merge(c.a, []byte(c.key), c.b); !isZero(p) || why != c.why {
			t.Errorf("Merge of %s: %d keys, error %d, want %d", c.name, len(p.Keys), why, c.why)
		}
	}
}

// Promise 6.5: what is put together, up to what just fits; of leaves key is no matter.
func TestMerge(t *testing.T) {
	full := fullLeaf(t, 4096)
	for _, key := range []string{"", "a", "b", "z", strings.Repeat("k", 256), strings.Repeat("k", 257)} {
		cases := []struct{ a, b, want api.Page }{
			{leaf(), leaf(), leaf()},
			{leaf("a", "1"), leaf(), leaf("a", "1")},
			{leaf(), leaf("a", "1"), leaf("a", "1")},
			{leaf("a", "1"), leaf("b", "2", "c", "3"), leaf("a", "1", "b", "2", "c", "3")},
			{leaf("", ""), leaf("\x00", ""), leaf("", "", "\x00", "")},
			{full, leaf(), full},
			{leaf(), full, full},
		}
		for i, c := range cases {
			if p, why := node.Merge(c.a, []byte(key), c.b); !same(p, c.want) || why != api.OK {
				t.Errorf("Merge %d of leaves: %d keys, error %d", i, len(p.Keys), why)
			}
		}
	}
	if p, why := node.Merge(leaf("", ""), nil, fullLeaf(t, 4094)); node.Size(p) != 4096 || why != api.OK {
		t.Errorf("Merge of leaves that just fit: size %d, error %d", node.Size(p), why)
	}
	if p, why := node.Merge(inner(1, "a"), []byte("b"), inner(7, "c")); !same(p, api.Page{Keys: inner(1, "a", "b", "c").Keys, Kids: []int{1, 2, 7, 8}}) || why != api.OK {
		t.Errorf("Merge of inner pages: %s, %d, error %d", p.Keys, p.Kids, why)
	}
	// the first page has a key of no bytes and two kids, which with the key between make 1 + 1 + 2 + 1 bytes more
	if p, why := node.Merge(inner(1, ""), []byte("\x00"), fullInner(t, 4096-5)); node.Size(p) != 4096 || why != api.OK {
		t.Errorf("Merge of inner pages that just fit: size %d, error %d", node.Size(p), why)
	}
	if p, why := node.Merge(inner(1, ""), []byte("\x00"), fullInner(t, 4096-4)); !isZero(p) || why != api.ErrFull {
		t.Errorf("Merge of inner pages one byte too great: error %d", why)
	}
	last := strings.Repeat("b", 256)
	if p, why := node.Merge(inner(1, "a"), []byte(last), inner(7, "c")); len(p.Keys) != 3 || string(p.Keys[1]) != last || why != api.OK {
		t.Errorf("Merge of inner pages with the longest key: error %d", why)
	}
}
