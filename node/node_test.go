package node_test

import (
	"bytes"
	"encoding/binary"
	"fmt"
	"hash/crc32"
	"math"
	"math/rand/v2"
	"slices"
	"strings"
	"testing"

	"lading/api"
	"lading/node"
)

// leaf is one with these keys, each with the value behind it.
func leaf(words ...string) api.Page {
	p := api.Page{Leaf: true}
	for i := 0; i < len(words); i += 2 {
		p.Keys = append(p.Keys, []byte(words[i]))
		p.Vals = append(p.Vals, []byte(words[i+1]))
	}
	return p
}

// inner is an inner page with these keys, and kids from the number first on.
func inner(first int, keys ...string) api.Page {
	p := api.Page{Kids: []int{first}}
	for i, k := range keys {
		p.Keys = append(p.Keys, []byte(k))
		p.Kids = append(p.Kids, first+i+1)
	}
	return p
}

// copied is p in memory of its own.
func copied(p api.Page) api.Page {
	q := api.Page{Leaf: p.Leaf, Kids: slices.Clone(p.Kids)}
	for _, k := range p.Keys {
		q.Keys = append(q.Keys, bytes.Clone(k))
	}
	for _, v := range p.Vals {
		q.Vals = append(q.Vals, bytes.Clone(v))
	}
	return q
}

func same(p, q api.Page) bool {
	return p.Leaf == q.Leaf && slices.EqualFunc(p.Keys, q.Keys, bytes.Equal) && slices.EqualFunc(p.Vals, q.Vals, bytes.Equal) && slices.Equal(p.Kids, q.Kids)
}

func isZero(p api.Page) bool { return same(p, api.Page{}) }

func textBytes(s []byte) []byte {
	return append(binary.AppendUvarint(nil, uint64(len(s))), s...)
}

// text is that of a page, as the document words it.
func text(p api.Page) []byte {
	mark := byte(2)
	if p.Leaf {
		mark = 1
	}
	b := binary.AppendUvarint([]byte{mark}, uint64(len(p.Keys)))
	if !p.Leaf {
		b = binary.AppendUvarint(b, uint64(p.Kids[0]))
	}
	for i, k := range p.Keys {
		b = append(b, textBytes(k)...)
		if p.Leaf {
			b = append(b, textBytes(p.Vals[i])...)
		} else {
			b = binary.AppendUvarint(b, uint64(p.Kids[i+1]))
		}
	}
	return b
}

// sealed are the bytes of a text, whether or not it is a page's, as the document words them.
func sealed(text []byte) []byte {
	b := make([]byte, 4092)
	copy(b, text)
	return binary.LittleEndian.AppendUint32(b, crc32.ChecksumIEEE(b))
}

// fullLeaf is a leaf of that size, near to that of a sector, whose entries are great ones.
func fullLeaf(t *testing.T, size int) api.Page {
	t.Helper()
	p := api.Page{Leaf: true}
	for i := range 5 {
		p.Keys = append(p.Keys, bytes.Repeat([]byte{byte('a' + i)}, api.MaxKey))
		p.Vals = append(p.Vals, bytes.Repeat([]byte{'v'}, api.MaxValue))
	}
	left := size - 6 - 5*(2+256+2+512) - (1 + 2)
	p.Keys = append(p.Keys, []byte(strings.Repeat("z", 60)))
	p.Vals = append(p.Vals, make([]byte, left-60))
	if got := len(text(p)) + 4; got != size {
		t.Fatalf("the leaf has the size %d, not %d", got, size)
	}
	return p
}

// fullInner is an inner page of that size, near to that of a sector.
func fullInner(t *testing.T, size int) api.Page {
	t.Helper()
	p := api.Page{Kids: []int{1023}}
	for i := range 15 {
		p.Keys = append(p.Keys, bytes.Repeat([]byte{byte('a' + i)}, 254))
		p.Kids = append(p.Kids, 1023)
	}
	left := size - 4 - 2 - 2 - 15*(2+254+2) - (2 + 2)
	p.Keys = append(p.Keys, bytes.Repeat([]byte("z"), left))
	p.Kids = append(p.Kids, 1023)
	if got := len(text(p)) + 4; got != size {
		t.Fatalf("the inner page has the size %d, not %d", got, size)
	}
	return p
}

// denseLeaf is a leaf of as many entries as can be: keys of at most two bytes, no values.
func denseLeaf() api.Page {
	p := leaf("", "")
	for a := range 256 {
		p.Keys = append(p.Keys, []byte{byte(a)})
		p.Vals = append(p.Vals, nil)
	}
	for a := 0; len(text(p))+4+4 <= api.SectorSize; a++ {
		p.Keys = append(p.Keys, []byte{byte(a >> 8), byte(a)})
		p.Vals = append(p.Vals, nil)
	}
	slices.SortFunc(p.Keys, bytes.Compare)
	return p
}

// somePage is a right page of any kind, often a small one.
func somePage(r *rand.Rand, isLeaf bool) api.Page {
	p := api.Page{Leaf: isLeaf}
	keys := map[string]int{}
	for range r.IntN(1 + r.IntN(40)) {
		keys[someWord(r, api.MaxKey)] = 1
	}
	if !isLeaf {
		keys[someWord(r, api.MaxKey)] = 1
		p.Kids = []int{1 + r.IntN(1023)}
	}
	words := make([]string, 0, len(keys))
	for k := range keys {
		words = append(words, k)
	}
	slices.Sort(words)
	for _, k := range words {
		p.Keys = append(p.Keys, []byte(k))
		if isLeaf {
			p.Vals = append(p.Vals, []byte(someWord(r, api.MaxValue)))
		} else {
			p.Kids = append(p.Kids, 1+r.IntN(1023)>>r.IntN(9))
		}
		if len(text(p))+4 > api.SectorSize {
			return somePage(r, isLeaf)
		}
	}
	return p
}

// someWord has few letters, so that words are often the same, or begin with one another.
func someWord(r *rand.Rand, most int) string {
	b := make([]byte, r.IntN(most+1)>>r.IntN(10))
	for i := range b {
		b[i] = []byte{0, 1, 'a', 'b', 127, 128, 255}[r.IntN(7)]
	}
	return string(b)
}

// pages are right ones, the least and the greatest among them.
func pages(t *testing.T) []api.Page {
	t.Helper()
	l := []api.Page{
		leaf(), leaf("", ""), leaf("a", ""), leaf("", "1"), leaf("a", "1", "b", "2"), leaf("", "", "\x00", "", "\x00\x00", "x"),
		leaf(strings.Repeat("k", 256), strings.Repeat("v", 512)), leaf(strings.Repeat("k", 127), strings.Repeat("v", 128)),
		inner(1, ""), inner(1022, "a"), inner(126, "a", "b", "c"), inner(5, "", "\x00", "\xff"), inner(9, strings.Repeat("k", 256)),
		fullLeaf(t, 4095), fullLeaf(t, 4096), fullInner(t, 4095), fullInner(t, 4096), denseLeaf(),
	}
	r := rand.New(rand.NewPCG(6, 1))
	for range 150 {
		l = append(l, somePage(r, true), somePage(r, false))
	}
	return l
}

// wrong is a page that is not right, and why.
type wrong struct {
	name string
	p    api.Page
	why  api.Errno
}

func wrongPages(t *testing.T) []wrong {
	t.Helper()
	l := []wrong{
		{"nothing", api.Page{}, api.ErrRange},
		{"a leaf without values", api.Page{Leaf: true, Keys: leaf("a", "").Keys}, api.ErrRange},
		{"a leaf without keys", api.Page{Leaf: true, Vals: leaf("a", "").Vals}, api.ErrRange},
		{"a leaf with a value too many", api.Page{Leaf: true, Keys: leaf("a", "").Keys, Vals: leaf("a", "", "b", "").Vals}, api.ErrRange},
		{"a leaf with a value too few", api.Page{Leaf: true, Keys: leaf("a", "", "b", "").Keys, Vals: leaf("a", "").Vals}, api.ErrRange},
		{"a leaf with a kid", api.Page{Leaf: true, Kids: []int{1}}, api.ErrRange},
		{"a leaf with kids", api.Page{Leaf: true, Keys: leaf("a", "").Keys, Vals: leaf("a", "").Vals, Kids: []int{1, 2}}, api.ErrRange},
		{"an inner page that is a leaf", api.Page{Leaf: true, Keys: leaf("a", "").Keys, Kids: []int{1, 2}}, api.ErrRange},
		{"a leaf that is none", api.Page{Keys: leaf("a", "").Keys, Vals: leaf("a", "").Vals}, api.ErrRange},
		{"an inner page with a kid alone", api.Page{Kids: []int{1}}, api.ErrRange},
		{"an inner page without kids", api.Page{Keys: leaf("a", "").Keys}, api.ErrRange},
		{"an inner page with a kid too few", api.Page{Keys: leaf("a", "").Keys, Kids: []int{1}}, api.ErrRange},
		{"an inner page with a kid too many", api.Page{Keys: leaf("a", "").Keys, Kids: []int{1, 2, 3}}, api.ErrRange},
		{"an inner page with a value", api.Page{Keys: leaf("a", "").Keys, Kids: []int{1, 2}, Vals: [][]byte{nil}}, api.ErrRange},
		{"a key too long in a leaf", leaf(strings.Repeat("k", 257), ""), api.ErrRange},
		{"a last key too long", leaf("a", "", strings.Repeat("k", 257), ""), api.ErrRange},
		{"a key too long in an inner page", inner(1, strings.Repeat("k", 257)), api.ErrRange},
		{"a value too long", leaf("a", strings.Repeat("v", 513)), api.ErrRange},
		{"a last value too long", leaf("a", "", "b", strings.Repeat("v", 513)), api.ErrRange},
		{"keys that are the same", leaf("a", "", "a", ""), api.ErrRange},
		{"empty keys", leaf("", "", "", ""), api.ErrRange},
		{"keys that fall", leaf("b", "", "a", ""), api.ErrRange},
		{"last keys that fall", leaf("a", "", "c", "", "b", ""), api.ErrRange},
		{"a key behind one that begins with it", leaf("aa", "", "a", ""), api.ErrRange},
		{"keys by bytes with signs", leaf("\x80", "", "\x7f", ""), api.ErrRange},
		{"keys of an inner page that are the same", inner(1, "a", "a"), api.ErrRange},
		{"keys of an inner page that fall", inner(1, "a", "c", "b"), api.ErrRange},
		{"a leaf one byte too great", fullLeaf(t, 4097), api.ErrFull},
		{"an inner page one byte too great", fullInner(t, 4097), api.ErrFull},
	}
	for _, kid := range []int{0, -1, 1024, 1025, math.MinInt, math.MaxInt} {
		l = append(l,
			wrong{fmt.Sprint("the first kid ", kid), api.Page{Keys: leaf("a", "").Keys, Kids: []int{kid, 1}}, api.ErrRange},
			wrong{fmt.Sprint("the last kid ", kid), api.Page{Keys: leaf("a", "").Keys, Kids: []int{1, kid}}, api.ErrRange})
	}
	great := fullLeaf(t, 4097)
	great.Keys[5] = great.Keys[4]
	l = append(l, wrong{"a leaf too great whose keys do not rise", great, api.ErrRange})
	huge := api.Page{Leaf: true}
	for i := range 100000 {
		huge.Keys = append(huge.Keys, fmt.Appendf(nil, "%08d", i))
		huge.Vals = append(huge.Vals, nil)
	}
	return append(l, wrong{"a leaf of very many keys", huge, api.ErrFull})
}

// Promise 6.1: Check and Size of right pages, and the chapter's example.
func TestRightPages(t *testing.T) {
	if n := node.Size(leaf("a", "1", "b", "2")); n != 14 {
		t.Errorf("Size of the example = %d", n)
	}
	if n := node.Size(leaf()); n != 6 {
		t.Errorf("Size of the least leaf = %d", n)
	}
	for i, p := range pages(t) {
		if why := node.Check(p); why != api.OK {
			t.Errorf("Check of the page %d: error %d", i, why)
		}
		if n := node.Size(p); n != len(text(p))+4 {
			t.Errorf("Size of the page %d = %d, want %d", i, n, len(text(p))+4)
		}
	}
}

// Promise 6.1: Check and Size of pages that are not right; Size is 0 but where the page is only too great.
func TestWrongPages(t *testing.T) {
	for _, w := range wrongPages(t) {
		if why := node.Check(w.p); why != w.why {
			t.Errorf("Check, %s: error %d, want %d", w.name, why, w.why)
		}
		want := 0
		if w.why == api.ErrFull {
			want = len(text(w.p)) + 4
		}
		if n := node.Size(w.p); n != want {
			t.Errorf("Size, %s: %d, want %d", w.name, n, want)
		}
	}
}

// Promises 6.1, P2 and P3: each call that is handed pages answers Check's error first, with nothing beside it.
func TestCheckComesFirst(t *testing.T) {
	long, good := make([]byte, 1000), leaf("a", "1")
	for _, w := range wrongPages(t) {
		if b, why := node.Encode(w.p); len(b) != 0 || why != w.why {
			t.Errorf("Encode, %s: %d bytes, error %d", w.name, len(b), why)
		}
		if n, is, why := node.Find(w.p, []byte("zz")); n != 0 || is || why != w.why {
			t.Errorf("Find, %s: %d, %t, error %d", w.name, n, is, why)
		}
		if q, why := node.Put(w.p, long, long); !isZero(q) || why != w.why {
			t.Errorf("Put, %s: error %d", w.name, why)
		}
		if q, is, why := node.Cut(w.p, []byte("a")); !isZero(q) || is || why != w.why {
			t.Errorf("Cut, %s: error %d", w.name, why)
		}
		if a, k, b, why := node.Split(w.p); !isZero(a) || len(k) != 0 || !isZero(b) || why != w.why {
			t.Errorf("Split, %s: error %d", w.name, why)
		}
		for _, p := range []api.Page{good, inner(1, "a"), fullLeaf(t, 4096)} {
			if q, why := node.Merge(w.p, long, p); !isZero(q) || why != w.why {
				t.Errorf("Merge, %s ahead: error %d", w.name, why)
			}
			if q, why := node.Merge(p, long, w.p); !isZero(q) || why != w.why {
				t.Errorf("Merge, %s behind: error %d", w.name, why)
			}
		}
	}
	none, great := api.Page{}, fullLeaf(t, 4097)
	if _, why := node.Merge(none, nil, great); why != api.ErrRange {
		t.Error("Merge of none and one too great: error", why)
	}
	if _, why := node.Merge(great, nil, none); why != api.ErrFull {
		t.Error("Merge of one too great and none: error", why)
	}
}

// Promises 6.1 and 6.7: the bytes of pages, and what they are read as; the chapter's example.
func TestEncodeThereAndBack(t *testing.T) {
	if b, _ := node.Encode(leaf("a", "1", "b", "2")); !bytes.HasPrefix(b, []byte("\x01\x02\x01a\x011\x01b\x012\x00")) {
		t.Errorf("Encode of the example: %x", b[:20])
	}
	for i, p := range pages(t) {
		b, why := node.Encode(p)
		if !bytes.Equal(b, sealed(text(p))) || why != api.OK {
			t.Fatalf("Encode of the page %d: error %d", i, why)
		}
		q, why := node.Decode(b)
		if !same(p, q) || why != api.OK {
			t.Fatalf("Decode of the page %d: error %d", i, why)
		}
	}
}

// noPage wants ErrCode, with nothing beside it.
func noPage(t *testing.T, name string, b []byte) {
	t.Helper()
	if p, why := node.Decode(b); !isZero(p) || why != api.ErrCode {
		t.Errorf("Decode, %s: %d keys, error %d, want ErrCode", name, len(p.Keys), why)
	}
}

// Promises 6.1 and 6.7: with another byte anywhere, or of another length, bytes are no page's.
func TestAnotherByte(t *testing.T) {
	r := rand.New(rand.NewPCG(6, 2))
	for _, p := range []api.Page{leaf(), leaf("a", "1", "b", "2"), inner(1, "a"), fullLeaf(t, 4096), fullInner(t, 4096)} {
		b, _ := node.Encode(p)
		for at := range b {
			by := byte(1 + r.IntN(255))
			b[at] ^= by
			noPage(t, fmt.Sprintf("the byte %d changed by %d", at, by), b)
			b[at] ^= by
		}
		for _, size := range []int{0, 1, 4, 5, 512, 4091, 4092, 4095} {
			noPage(t, fmt.Sprint("cut down to ", size), b[:size])
		}
		noPage(t, "a byte behind", append(bytes.Clone(b), 0))
		noPage(t, "twice", append(bytes.Clone(b), b...))
	}
	noPage(t, "nil", nil)
	noPage(t, "noughts", make([]byte, api.SectorSize))
	for _, size := range []int{4091, 4093, 8192} {
		b := make([]byte, size)
		copy(b, text(leaf("a", "1")))
		noPage(t, "sealed with another length", binary.LittleEndian.AppendUint32(b, crc32.ChecksumIEEE(b)))
	}
}

// Promise 6.1: bytes whose checksum is right, and whose text is no right page's.
func TestWrongTexts(t *testing.T) {
	nine := strings.Repeat("\xff", 9)
	cases := map[string]string{
		"nothing":                               "",
		"no such kind":                          "\x03\x00",
		"no such kind with entries":             "\x00\x01\x01a\x011",
		"a great kind":                          "\xff\x01\x01a\x011",
		"a leaf's number of keys in two forms":  "\x01\x81\x00\x01a\x011",
		"no keys, in two forms":                 "\x01\x80\x00",
		"a number of keys that is none":         "\x01" + nine + "\x02",
		"very many keys":                        "\x01" + nine + "\x01",
		"keys of noughts":                       "\x01\x02",
		"2^32 keys more":                        "\x01\x81\x80\x80\x80\x10\x01a\x011",
		"a key's length in two forms":           "\x01\x01\x81\x00a\x011",
		"a value's length in two forms":         "\x01\x01\x01a\x81\x001",
		"keys that are the same":                "\x01\x02\x01a\x011\x01a\x012",
		"keys that fall":                        "\x01\x02\x01b\x011\x01a\x012",
		"a byte behind":                         "\x01\x01\x01a\x011\x01",
		"a byte far behind":                     "\x01\x01\x01a\x011" + strings.Repeat("\x00", 4000) + "\x01",
		"a byte at the end":                     "\x01\x00" + strings.Repeat("\x00", 4089) + "\x80",
		"a key too long":                        "\x01\x01" + string(textBytes(make([]byte, 257))) + "\x00",
		"a value too long":                      "\x01\x01\x00" + string(textBytes(make([]byte, 513))),
		"a key beyond a text":                   "\x01\x01" + string(textBytes(make([]byte, 1025))) + "\x00",
		"a key beyond the page":                 "\x01\x01\xff\x1f",
		"a key of very many bytes":              "\x01\x01" + nine + "\x01",
		"an inner page without keys":            "\x02\x00\x01",
		"the kid 0":                             "\x02\x01\x00\x01a\x01",
		"the last kid 0":                        "\x02\x01\x01\x01a\x00",
		"the kid 1024":                          "\x02\x01\x80\x08\x01a\x01",
		"the last kid 1024":                     "\x02\x01\x01\x01a\x80\x08",
		"a kid in two forms":                    "\x02\x01\x81\x00\x01a\x01",
		"the kid 2^32 + 1":                      "\x02\x01\x81\x80\x80\x80\x10\x01a\x01",
		"the kid 2^64 - 1":                      "\x02\x01" + nine + "\x01\x01a\x01",
		"a kid that is none":                    "\x02\x01" + nine + "\x02\x01a\x01",
		"an inner page's keys that fall":        "\x02\x02\x01\x01b\x02\x01a\x03",
		"an inner page's keys, the same":        "\x02\x02\x01\x01a\x02\x01a\x03",
		"an inner page's key too long":          "\x02\x01\x01" + string(textBytes(make([]byte, 257))) + "\x02",
		"an inner page of very many keys":       "\x02" + nine + "\x01\x01",
		"an inner page with a byte behind":      "\x02\x01\x01\x01a\x02\x02",
		"an inner page's number in two forms":   "\x02\x81\x00\x01\x01a\x02",
		"an inner page's key's length in two":   "\x02\x01\x01\x81\x00a\x02",
		"a text of one byte again and again":    strings.Repeat("\x01", 4092),
		"a text of the other byte again":        strings.Repeat("\x02", 4092),
		"a text without an end":                 "\x01" + strings.Repeat("\x80", 4091),
		"a leaf whose last value is cut":        string(text(fullLeaf(t, 4097)))[:4092],
		"an inner page whose last kid is cut":   string(text(fullInner(t, 4097)))[:4092],
		"an inner page whose last kid is none":  string(text(fullInner(t, 4098)))[:4092],
		"a leaf whose last value has no length": string(text(leafCutAtTheEnd(t))[:4092]),
	}
	for name, s := range cases {
		noPage(t, name, sealed([]byte(s)))
	}
	good := sealed([]byte("\x01\x01\x01a\x011"))
	if p, why := node.Decode(good); !same(p, leaf("a", "1")) || why != api.OK {
		t.Error("Decode of a right text: error", why)
	}
	slices.Reverse(good[4092:])
	noPage(t, "the checksum turned round", good)
}

// leafCutAtTheEnd is a leaf whose text has its last value's length just behind the page's room.
func leafCutAtTheEnd(t *testing.T) api.Page {
	t.Helper()
	p := fullLeaf(t, 4096)
	p.Keys, p.Vals = append(p.Keys, []byte(strings.Repeat("z", 61))), append(p.Vals, nil)
	for len(text(p)) > 4093 {
		p.Vals[5] = p.Vals[5][1:]
	}
	if got := len(text(p)); got != 4093 {
		t.Fatalf("the leaf's text has %d bytes", got)
	}
	return p
}

// Promises 6.1 and 6.7: of any bytes with a right checksum just those are read that are written again as what they were.
func TestReadOneWay(t *testing.T) {
	r := rand.New(rand.NewPCG(6, 3))
	read := 0
	for range 20000 {
		b := []byte{byte(1 + r.IntN(2)), byte(r.IntN(4))}
		for range r.IntN(12) {
			b = append(b, []byte{0, 1, 1, 1, 2, 'a', 'b', 0x80, 0xff}[r.IntN(9)])
		}
		full := sealed(b)
		p, why := node.Decode(full)
		if why != api.OK {
			if !isZero(p) || why != api.ErrCode {
				t.Fatalf("Decode(%x): error %d", b, why)
			}
			continue
		}
		read++
		again, why := node.Encode(p)
		if !bytes.Equal(again, full) || why != api.OK || node.Check(p) != api.OK {
			t.Fatalf("Decode(%x) is written as %x, error %d", b, again[:20], why)
		}
	}
	if read < 100 {
		t.Errorf("only %d texts were read", read)
	}
}
