package node

import (
	"bytes"
	"slices"
	"sort"

	"lading/api"
)

// Find is where a key is: of a leaf its place among the keys, of an inner page that of the kid in which it is.
func Find(p api.Page, key []byte) (int, bool, api.Errno) {
	if why := Check(p); why != api.OK {
		return 0, false, why
	}
	at, is := place(p.Keys, key)
	if is && !p.Leaf {
		at++
	}
	return at, is, api.OK
}

// Put is the leaf in which key has val.
func Put(p api.Page, key, val []byte) (api.Page, api.Errno) {
	if why := checkLeaf(p); why != api.OK {
		return api.Page{}, why
	}
	if len(key) > api.MaxKey || len(val) > api.MaxValue {
		return api.Page{}, api.ErrLong
	}
	keys, vals := clones(p.Keys), clones(p.Vals)
	at, is := place(keys, key)
	if is {
		vals[at] = bytes.Clone(val)
	} else {
		keys = slices.Insert(keys, at, bytes.Clone(key))
		vals = slices.Insert(vals, at, bytes.Clone(val))
	}
	return checked(api.Page{Leaf: true, Keys: keys, Vals: vals})
}

// Cut is the leaf without a key, and whether that was there.
func Cut(p api.Page, key []byte) (api.Page, bool, api.Errno) {
	if why := checkLeaf(p); why != api.OK {
		return api.Page{}, false, why
	}
	keys, vals := clones(p.Keys), clones(p.Vals)
	at, is := place(keys, key)
	if is {
		keys = slices.Delete(keys, at, at+1)
		vals = slices.Delete(vals, at, at+1)
	}
	return api.Page{Leaf: true, Keys: keys, Vals: vals}, is, api.OK
}

// place is how many keys are below key, and whether the next one is it.
func place(keys [][]byte, key []byte) (int, bool) {
	at := sort.Search(len(keys), func(i int) bool {
		return bytes.Compare(keys[i], key) >= 0
	})
	return at, at < len(keys) && bytes.Equal(keys[at], key)
}

func checkLeaf(p api.Page) api.Errno {
	if why := Check(p); why != api.OK {
		return why
	}
	if !p.Leaf {
		return api.ErrType
	}
	return api.OK
}

// checked is p, or why it is not right, with nothing beside.
func checked(p api.Page) (api.Page, api.Errno) {
	if why := Check(p); why != api.OK {
		return api.Page{}, why
	}
	return p, api.OK
}

// clones is l in memory of its own, and so is each of its parts.
func clones(l [][]byte) [][]byte {
	c := make([][]byte, len(l))
	for i, b := range l {
		c[i] = bytes.Clone(b)
	}
	return c
}
