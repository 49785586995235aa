package node

import (
	"bytes"
	"slices"
	"sort"

	"lading/api"
)

const (
	leastLeaf  = 2 // keys of a leaf that can be split
	leastInner = 3 // keys of an inner page that can be: one for each half, one between
)

// Split makes two pages of one, with the key between them.
func Split(p api.Page) (api.Page, []byte, api.Page, api.Errno) {
	if why := Check(p); why != api.OK {
		return api.Page{}, nil, api.Page{}, why
	}
	least := leastInner
	if p.Leaf {
		least = leastLeaf
	}
	if len(p.Keys) < least {
		return api.Page{}, nil, api.Page{}, api.ErrRange
	}
	if p.Leaf {
		i := leafMiddle(p)
		return leafPart(p, 0, i), bytes.Clone(p.Keys[i]), leafPart(p, i, len(p.Keys)), api.OK
	}
	i := len(p.Keys) / 2
	return innerPart(p, 0, i), bytes.Clone(p.Keys[i]), innerPart(p, i+1, len(p.Keys)), api.OK
}

// Merge makes one page of two; key stands between those of inner pages, and is no matter of leaves.
func Merge(a api.Page, key []byte, b api.Page) (api.Page, api.Errno) {
	if why := Check(a); why != api.OK {
		return api.Page{}, why
	}
	if why := Check(b); why != api.OK {
		return api.Page{}, why
	}
	if a.Leaf != b.Leaf {
		return api.Page{}, api.ErrType
	}
	if a.Leaf {
		return checked(api.Page{Leaf: true, Keys: clones(slices.Concat(a.Keys, b.Keys)), Vals: clones(slices.Concat(a.Vals, b.Vals))})
	}
	if len(key) > api.MaxKey {
		return api.Page{}, api.ErrLong
	}
	keys := slices.Concat(a.Keys, [][]byte{key}, b.Keys)
	return checked(api.Page{Keys: clones(keys), Kids: slices.Concat(a.Kids, b.Kids)})
}

// leafMiddle is how many entries the first half of a leaf has: the more there are, the greater it is, so they are searched by halves.
func leafMiddle(p api.Page) int {
	half := sizeOf(p) / 2
	return 1 + sort.Search(len(p.Keys)-leastLeaf, func(i int) bool {
		return sizeOf(api.Page{Leaf: true, Keys: p.Keys[:i+1], Vals: p.Vals[:i+1]}) >= half
	})
}

// leafPart is the leaf of the entries from one place on, up to another.
func leafPart(p api.Page, from, to int) api.Page {
	return api.Page{Leaf: true, Keys: clones(p.Keys[from:to]), Vals: clones(p.Vals[from:to])}
}

// innerPart is the inner page of the keys from one place on, up to another, and of the kids beside them.
func innerPart(p api.Page, from, to int) api.Page {
	return api.Page{Keys: clones(p.Keys[from:to]), Kids: slices.Clone(p.Kids[from : to+1])}
}
