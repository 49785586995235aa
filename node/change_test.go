package node_test

import (
	"bytes"
	"fmt"
	"math/rand/v2"
	"slices"
	"strings"
	"testing"

	"lading/api"
	"lading/node"
)

// find is Find as the document words it, key by key.
func find(p api.Page, key []byte) (int, bool) {
	n, is := 0, false
	for _, k := range p.Keys {
		below := bytes.Compare(k, key)
		if below < 0 || below == 0 && !p.Leaf {
			n++
		}
		is = is || below == 0
	}
	return n, is
}

// Promise 6.2: the chapter's examples, and keys of which an inner page has none and one.
func TestFindExamples(t *testing.T) {
	two, in := leaf("a", "1", "b", "2"), inner(1, "b", "d")
	cases := []struct {
		p   api.Page
		key string
		n   int
		is  bool
	}{
		{two, "b", 1, true}, {two, "c", 2, false}, {two, "a", 0, true}, {two, "", 0, false}, {two, "aa", 1, false},
		{leaf(), "", 0, false}, {leaf(), "a", 0, false}, {leaf("", ""), "", 0, true}, {leaf("", ""), "\x00", 1, false},
		{in, "a", 0, false}, {in, "b", 1, true}, {in, "c", 1, false}, {in, "d", 2, true}, {in, "e", 2, false}, {in, "", 0, false},
		{inner(1, ""), "", 1, true}, {inner(1, ""), "a", 1, false},
	}
	for _, c := range cases {
		if n, is, why := node.Find(c.p, []byte(c.key)); n != c.n || is != c.is || why != api.OK {
			t.Errorf("Find(%s, %q) = %d, %t, error %d, want %d, %t", c.p.Keys, c.key, n, is, why, c.n, c.is)
		}
	}
}

// Promise 6.2: Find of keys that are there, beside those, and of any others, too long ones among these.
func TestFind(t *testing.T) {
	r := rand.New(rand.NewPCG(6, 4))
	for i, p := range pages(t) {
		keys := [][]byte{nil, {}, {0}, {255}, make([]byte, 300), bytes.Repeat([]byte{255}, 300)}
		for _, k := range p.Keys {
			keys = append(keys, k, append(bytes.Clone(k), 0), k[:max(len(k), 1)-1], []byte(someWord(r, api.MaxKey)))
		}
		for _, key := range keys {
			want, wantIs := find(p, key)
			if n, is, why := node.Find(p, key); n != want || is != wantIs || why != api.OK {
				t.Fatalf("page %d: Find(%x) = %d, %t, error %d, want %d, %t", i, key, n, is, why, want, wantIs)
			}
		}
	}
}

// Promises 6.3, P2 and P3: Put's errors in their order, with nothing beside them.
func TestPutWrong(t *testing.T) {
	long, longest := strings.Repeat("k", 257), strings.Repeat("v", 513)
	full := fullLeaf(t, 4096)
	cases := []struct {
		name     string
		p        api.Page
		key, val string
		why      api.Errno
	}{
		{"into an inner page", inner(1, "a"), "a", "1", api.ErrType},
		{"a long key into an inner page", inner(1, "a"), long, longest, api.ErrType},
		{"a key too long", leaf("a", "1"), long, "1", api.ErrLong},
		{"a value too long", leaf("a", "1"), "b", longest, api.ErrLong},
		{"a value too long of a key that is there", leaf("a", "1"), "a", longest, api.ErrLong},
		{"a key too long into a full leaf", full, long, "1", api.ErrLong},
		{"one more into a full leaf", full, "", "", api.ErrFull},
		{"a greater value into a full leaf", full, string(full.Keys[5]), string(full.Vals[5]) + "x", api.ErrFull},
		{"two bytes into a leaf with room for one", fullLeaf(t, 4095), "", "", api.ErrFull},
		{"three bytes into a leaf with room for two", fullLeaf(t, 4094), "", "x", api.ErrFull},
	}
	for _, c := range cases {
		if q, why := node.Put(c.p, []byte(c.key), []byte(c.val)); !isZero(q) || why != c.why {
			t.Errorf("Put of %s: %d keys, error %d, want %d", c.name, len(q.Keys), why, c.why)
		}
	}
}

// Promises 6.1 and 6.3: what just fits is put.
func TestPutJustFits(t *testing.T) {
	put := func(name string, p api.Page, key, val string, size int) {
		t.Helper()
		q, why := node.Put(p, []byte(key), []byte(val))
		if at, is, _ := node.Find(q, []byte(key)); why != api.OK || !is || string(q.Vals[at]) != val || node.Size(q) != size {
			t.Errorf("Put of %s: size %d, error %d", name, node.Size(q), why)
		}
	}
	full := fullLeaf(t, 4096)
	put("two bytes into a leaf with room for two", fullLeaf(t, 4094), "", "", 4096)
	put("another value into a full leaf", full, string(full.Keys[5]), strings.Repeat("y", len(full.Vals[5])), 4096)
	put("a smaller value into a full leaf", full, string(full.Keys[0]), "", 4096-513)
	put("the longest key and value", leaf(), strings.Repeat("k", 256), strings.Repeat("v", 512), 6+2+256+2+512)
	put("the empty key", leaf(), "", "", 8)
	many := leaf()
	for i := range 127 {
		many.Keys, many.Vals = append(many.Keys, []byte{byte(i)}), append(many.Vals, nil)
	}
	put("the 128th key, whose number takes a byte more", many, "\x7f", "", 6+127*3+3+1)
}

// Promise 6.3: Cut's errors, and what is not there.
func TestCutEdges(t *testing.T) {
	if q, is, why := node.Cut(inner(1, "a"), []byte("a")); !isZero(q) || is || why != api.ErrType {
		t.Errorf("Cut of an inner page: %t, error %d", is, why)
	}
	two := leaf("a", "1", "b", "2")
	for _, key := range []string{"", "aa", "c", strings.Repeat("k", 300)} {
		if q, is, why := node.Cut(two, []byte(key)); !same(q, two) || is || why != api.OK {
			t.Errorf("Cut of %q: %s, %t, error %d", key, q.Keys, is, why)
		}
	}
	if q, is, why := node.Cut(leaf("a", "1"), []byte("a")); !same(q, leaf()) || !is || why != api.OK {
		t.Errorf("Cut of the only key: %s, %t, error %d", q.Keys, is, why)
	}
	if q, is, why := node.Cut(leaf(), nil); !same(q, leaf()) || is || why != api.OK {
		t.Errorf("Cut of nothing: %s, %t, error %d", q.Keys, is, why)
	}
	if q, is, why := node.Cut(two, []byte("a")); !same(q, leaf("b", "2")) || !is || why != api.OK {
		t.Errorf("Cut of a: %s, %t, error %d", q.Keys, is, why)
	}
}

// fromMap is the leaf with the entries of a map.
func fromMap(m map[string]string) api.Page {
	var keys []string
	for k := range m {
		keys = append(keys, k)
	}
	slices.Sort(keys)
	p := api.Page{Leaf: true}
	for _, k := range keys {
		p.Keys, p.Vals = append(p.Keys, []byte(k)), append(p.Vals, []byte(m[k]))
	}
	return p
}

// Promises 6.3, 6.6 and 6.9: over long runs a leaf has what a map has; what is handed in stays as it was.
func TestLongRuns(t *testing.T) {
	for seed := range uint64(40) {
		r := rand.New(rand.NewPCG(seed, 6))
		p, m := leaf(), map[string]string{}
		refused := 0
		for range 200 {
			key, val := someWord(r, api.MaxKey), someWord(r, api.MaxValue)
			was := copied(p)
			old, had := m[key]
			if r.IntN(4) == 0 {
				q, is, why := node.Cut(p, []byte(key))
				if is != had || why != api.OK || !same(p, was) {
					t.Fatalf("seed %d: Cut(%x) = %t, error %d", seed, key, is, why)
				}
				delete(m, key)
				p = q
			} else {
				m[key] = val
				want := api.OK
				if len(text(fromMap(m)))+4 > api.SectorSize {
					want = api.ErrFull
				}
				q, why := node.Put(p, []byte(key), []byte(val))
				if why != want || !same(p, was) {
					t.Fatalf("seed %d: Put(%x): error %d, want %d", seed, key, why, want)
				}
				if want == api.OK {
					p = q
				} else if refused++; had {
					m[key] = old
				} else {
					delete(m, key)
				}
			}
			if !same(p, fromMap(m)) {
				t.Fatalf("seed %d: the leaf is another one than the map", seed)
			}
		}
		if refused == 0 {
			t.Errorf("seed %d: the leaf was never full", seed)
		}
	}
}

// lists are all the byte lists of pages.
func lists(pages ...api.Page) [][]byte {
	var l [][]byte
	for _, p := range pages {
		l = append(append(l, p.Keys...), p.Vals...)
	}
	return l
}

// apart tells whether no two of these lists share memory, also in the room behind them.
func apart(l [][]byte) bool {
	for i, b := range l {
		full := b[:cap(b)]
		for at := range full {
			full[at] = byte(i)
		}
	}
	for i, b := range l {
		if !bytes.Equal(b, bytes.Repeat([]byte{byte(i)}, len(b))) {
			return false
		}
	}
	return true
}

// scribble writes over all that a page has, and over the room behind it.
func scribble(p api.Page) {
	for _, b := range lists(p) {
		full := b[:cap(b)]
		for i := range full {
			full[i] = '!'
		}
	}
	for _, l := range [][][]byte{p.Keys[:cap(p.Keys)], p.Vals[:cap(p.Vals)]} {
		for i := range l {
			l[i] = []byte("scribbled")
		}
	}
	kids := p.Kids[:cap(p.Kids)]
	for i := range kids {
		kids[i] = -1
	}
}

// roomy is p in memory with room behind each list.
func roomy(p api.Page) api.Page {
	room := func(b []byte) []byte { return append(make([]byte, 0, len(b)+9), b...) }
	q := api.Page{Leaf: p.Leaf, Keys: make([][]byte, 0, 50), Vals: make([][]byte, 0, 50), Kids: append(make([]int, 0, 50), p.Kids...)}
	for _, k := range p.Keys {
		q.Keys = append(q.Keys, room(k))
	}
	for _, v := range p.Vals {
		q.Vals = append(q.Vals, room(v))
	}
	return q
}

// Promise 6.6: each call's pages are new memory in all their lists, and what is handed in is neither changed nor kept.
func TestMemory(t *testing.T) {
	four := leaf("a", "one", "b", "two", "c", "three", "d", "four")
	tree := inner(5, "a", "b", "c", "d", "e")
	key, val := []byte("bb"), []byte("new")
	calls := map[string]struct {
		p    api.Page
		call func(p api.Page) []api.Page
	}{
		"Put":            {four, func(p api.Page) []api.Page { q, _ := node.Put(p, key, val); return []api.Page{q} }},
		"Put of one":     {four, func(p api.Page) []api.Page { q, _ := node.Put(p, []byte("b"), val); return []api.Page{q} }},
		"Cut":            {four, func(p api.Page) []api.Page { q, _, _ := node.Cut(p, []byte("b")); return []api.Page{q} }},
		"Cut of none":    {four, func(p api.Page) []api.Page { q, _, _ := node.Cut(p, key); return []api.Page{q} }},
		"Split":          {four, split},
		"Split of inner": {tree, split},
		"Merge":          {four, func(p api.Page) []api.Page { q, _ := node.Merge(p, key, leaf("x", "y")); return []api.Page{q} }},
		"Merge behind":   {four, func(p api.Page) []api.Page { q, _ := node.Merge(leaf("", ""), key, p); return []api.Page{q} }},
		"Merge of inner": {tree, func(p api.Page) []api.Page { q, _ := node.Merge(p, []byte("f"), inner(20, "g")); return []api.Page{q} }},
		"Merge of inner ": {tree, func(p api.Page) []api.Page {
			q, _ := node.Merge(inner(20, ""), []byte("\x00"), p)
			return []api.Page{q}
		}},
		"Encode, Decode": {four, func(p api.Page) []api.Page {
			b, _ := node.Encode(p)
			q, _ := node.Decode(b)
			clear(b)
			return []api.Page{q}
		}},
	}
	for name, c := range calls {
		p := roomy(c.p)
		first, second := c.call(p), c.call(p)
		want := fmt.Sprint(first)
		for _, q := range first {
			if len(q.Keys) == 0 {
				t.Fatalf("%s: no page", name)
			}
		}
		if !apart(lists(first...)) {
			t.Errorf("%s: two lists of one answer share memory", name)
		}
		for _, q := range first {
			scribble(q)
		}
		if !same(p, c.p) {
			t.Errorf("%s: the answer shares memory with what was handed in", name)
		}
		scribble(p)
		if got := fmt.Sprint(second); got != want {
			t.Errorf("%s: answers share memory: %s, want %s", name, got, want)
		}
	}
	if string(key) != "bb" || string(val) != "new" {
		t.Error("a key or value that was handed in is changed")
	}
}

// split is Split's answer, the key as a page of its own, with its kids held apart.
func split(p api.Page) []api.Page {
	a, k, b, _ := node.Split(p)
	if len(a.Kids) > 0 {
		_ = append(a.Kids, 99)
	}
	return []api.Page{a, {Keys: [][]byte{k}}, b}
}

// Promise 6.6: keys and values that are put, and a key between, are not kept.
func TestKeysAreNotKept(t *testing.T) {
	key, val := []byte("k"), []byte("v")
	p, _ := node.Put(leaf("a", "1"), key, val)
	q, _ := node.Put(leaf("k", "1"), key, val)
	m, _ := node.Merge(inner(1, "a"), key, inner(5, "x"))
	key[0], val[0] = '!', '!'
	if !same(p, leaf("a", "1", "k", "v")) || !same(q, leaf("k", "v")) || string(m.Keys[1]) != "k" {
		t.Error("Put or Merge keep what they were handed")
	}
	b, _ := node.Encode(p)
	again, _ := node.Encode(p)
	clear(b)
	if got, why := node.Decode(again); !same(got, p) || why != api.OK {
		t.Error("Encode's answers share memory")
	}
}
