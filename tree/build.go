package tree

import (
	"sort"

	"lading/api"
	"lading/node"
	"lading/pager"
)

// least is how many kids an inner page has at least. Of entries and kids alike more than that go into a page, however long they are.
const least = 2

// part is what a level of a tree is made of.
type part interface {
	first() []byte // its least key
}

// entry is one of a leaf.
type entry api.Pair

func (e entry) first() []byte { return []byte(e.Key) }

// kid is a page of the level below.
type kid struct {
	key    []byte
	number int
}

func (k kid) first() []byte { return k.key }

// builder makes the pages of a tree beside those of the one that is.
type builder struct {
	pager *pager.Pager
	old   map[string]int // by their bytes, the pages that are and were not taken yet
	pages map[int]api.Page
	fresh []int // those that were given out
}

// beside begins a tree beside t.
func beside(t *Tree) *builder {
	b := &builder{pager: t.pager, old: map[string]int{}, pages: map[int]api.Page{}}
	for number, p := range t.pages {
		if data, why := node.Encode(p); why == api.OK {
			b.old[string(data)] = number
		}
	}
	return b
}

// build is the tree of these entries.
func (b *builder) build(entries []entry) (Tree, api.Errno) {
	t := Tree{pager: b.pager, pages: b.pages, live: len(entries)}
	kids, why := level(b, entries, leafOf)
	for why == api.OK && len(kids) > 1 {
		kids, why = level(b, kids, innerOf)
	}
	if why != api.OK {
		return Tree{}, why
	}
	if len(kids) > 0 {
		t.root = kids[0].number
	}
	return t, api.OK
}

// level cuts parts into pages, each as full as it can be, and answers these.
func level[T part](b *builder, parts []T, pageOf func([]T) api.Page) ([]kid, api.Errno) {
	var kids []kid
	for len(parts) > 0 {
		n := sort.Search(len(parts), func(i int) bool {
			return node.Size(pageOf(parts[:i+1])) > api.SectorSize
		})
		if rest := len(parts) - n; rest > 0 && rest < least {
			n -= least - rest
		}
		number, why := b.put(pageOf(parts[:n]))
		if why != api.OK {
			return nil, why
		}
		kids = append(kids, kid{key: parts[0].first(), number: number})
		parts = parts[n:]
	}
	return kids, api.OK
}

func leafOf(entries []entry) api.Page {
	p := api.Page{Leaf: true}
	for _, e := range entries {
		p.Keys = append(p.Keys, []byte(e.Key))
		p.Vals = append(p.Vals, []byte(e.Val))
	}
	return p
}

func innerOf(kids []kid) api.Page {
	var p api.Page
	for i, k := range kids {
		if i > 0 {
			p.Keys = append(p.Keys, k.key)
		}
		p.Kids = append(p.Kids, k.number)
	}
	return p
}

// put is the number of the page that holds p: an old one that holds it already stays, else it is a new one.
func (b *builder) put(p api.Page) (int, api.Errno) {
	data, why := node.Encode(p)
	if why != api.OK {
		return 0, why
	}
	number, stays := b.old[string(data)]
	if stays {
		delete(b.old, string(data))
	} else {
		number, why = b.write(data)
	}
	if why != api.OK {
		return 0, why
	}
	b.pages[number] = p
	return number, api.OK
}

// write writes a page of its own: none that is in use is ever written over.
func (b *builder) write(data []byte) (int, api.Errno) {
	number, why := b.pager.Alloc()
	if why != api.OK {
		return 0, why
	}
	b.fresh = append(b.fresh, number)
	if why := b.pager.Write(number, data); why != api.OK {
		return 0, why
	}
	return number, api.OK
}
