package tree

import (
	"bytes"
	"maps"
	"slices"

	"lading/api"
	"lading/node"
	"lading/pager"
)

// load reads the pages from the root on, and has them kept; a pager whose pages are no tree is left as it was.
func (t *Tree) load() api.Errno {
	if t.root != 0 {
		if why := t.read(); why != api.OK {
			return why
		}
	}
	found := 0
	for range t.from("") {
		found++
	}
	if found != t.live {
		return api.ErrCode
	}
	return t.pager.Keep(slices.Sorted(maps.Keys(t.pages)))
}

// read reads the pages from the root on. A pager hands out the bytes of no page that is free, and takes back no page that is kept: so all that are free are given out while they are read.
func (t *Tree) read() api.Errno {
	lent, why := lendAll(t.pager)
	defer giveBack(t.pager, lent)
	if why != api.OK {
		return why
	}
	r := reader{pager: t.pager, lent: lent, pages: t.pages}
	_, why = r.read(t.root, span{})
	return why
}

// lendAll gives out all pages that are free. A pager that gives none out lost its power.
func lendAll(p *pager.Pager) ([]int, api.Errno) {
	var lent []int
	for {
		number, why := p.Alloc()
		if why == api.ErrFull {
			return lent, api.OK
		}
		if why != api.OK {
			return lent, api.ErrDown
		}
		lent = append(lent, number)
	}
}

func giveBack(p *pager.Pager, lent []int) {
	for _, number := range lent {
		p.Free(number)
	}
}

// reader reads pages that hang together.
type reader struct {
	pager *pager.Pager
	lent  []int            // those that may be read, rising
	pages map[int]api.Page // those that have been
}

// read reads a page and all that hang from it, with their keys in a span, and tells how deep they go.
func (r reader) read(number int, s span) (int, api.Errno) {
	p, why := r.page(number)
	if why != api.OK {
		return 0, why
	}
	r.pages[number] = p
	if slices.ContainsFunc(p.Keys, s.lacks) {
		return 0, api.ErrCode
	}
	deep := 0
	for i, kid := range p.Kids {
		below, why := r.read(kid, s.part(p.Keys, i))
		if why != api.OK {
			return 0, why
		}
		if i > 0 && below != deep {
			return 0, api.ErrCode
		}
		deep = below
	}
	return deep + 1, api.OK
}

// page is what a page holds that was not read yet: in a tree each hangs in one place alone.
func (r reader) page(number int) (api.Page, api.Errno) {
	_, may := slices.BinarySearch(r.lent, number)
	_, was := r.pages[number]
	if !may || was {
		return api.Page{}, api.ErrCode
	}
	b, why := r.pager.Page(number)
	if why != api.OK {
		return api.Page{}, why
	}
	return node.Decode(b)
}

// span is where keys must be: at least low and, if it ends, below high.
type span struct {
	low, high []byte
	ends      bool
}

func (s span) lacks(key []byte) bool {
	return bytes.Compare(key, s.low) < 0 || s.ends && bytes.Compare(key, s.high) >= 0
}

// part is the span of the kid i of an inner page with these keys.
func (s span) part(keys [][]byte, i int) span {
	if i > 0 {
		s.low = keys[i-1]
	}
	if i < len(keys) {
		s.high, s.ends = keys[i], true
	}
	return s
}
