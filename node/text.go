package node

import (
	"lading/api"
	"lading/codec"
)

func textOf(p api.Page) []byte {
	if p.Leaf {
		return leafText(p)
	}
	return innerText(p)
}

func leafText(p api.Page) []byte {
	b := putNum([]byte{leafMark}, len(p.Keys))
	for i, key := range p.Keys {
		b = putText(putText(b, key), p.Vals[i])
	}
	return b
}

func innerText(p api.Page) []byte {
	b := putNum([]byte{innerMark}, len(p.Keys))
	b = putNum(b, p.Kids[0])
	for i, key := range p.Keys {
		b = putNum(putText(b, key), p.Kids[i+1])
	}
	return b
}

// putNum writes into b, which must be the caller's own; codec itself would copy b.
func putNum(b []byte, n int) []byte {
	return append(b, codec.Num(nil, uint64(n))...)
}

// putText writes into b, which must be the caller's own; codec itself would copy b.
func putText(b, s []byte) []byte {
	return append(b, codec.Text(nil, string(s))...)
}

// reader goes through a page's text; once it is bad nothing is left to be read, and it stays so.
type reader struct {
	rest []byte
	bad  bool
}

// readPage is the page that a text begins with; whether it is right is still to be seen.
func readPage(text []byte) (api.Page, bool) {
	r := reader{rest: text[1:]}
	count := r.num()
	var p api.Page
	switch text[0] {
	case leafMark:
		p = r.leaf(count)
	case innerMark:
		p = r.inner(count)
	default:
		r.bad = true
	}
	return p, !r.bad
}

func (r *reader) leaf(count uint64) api.Page {
	p := api.Page{Leaf: true}
	for i := uint64(0); i < count && !r.bad; i++ {
		p.Keys = append(p.Keys, r.text())
		p.Vals = append(p.Vals, r.text())
	}
	return p
}

func (r *reader) inner(count uint64) api.Page {
	p := api.Page{Kids: []int{int(r.num())}}
	for i := uint64(0); i < count && !r.bad; i++ {
		p.Keys = append(p.Keys, r.text())
		p.Kids = append(p.Kids, int(r.num()))
	}
	return p
}

func (r *reader) num() uint64 {
	n, rest, why := codec.ReadNum(r.rest)
	r.rest, r.bad = rest, r.bad || why != api.OK
	return n
}

func (r *reader) text() []byte {
	s, rest, why := codec.ReadText(r.rest)
	r.rest, r.bad = rest, r.bad || why != api.OK
	return []byte(s)
}
