package image

import (
	"slices"
	"strings"

	"lading/api"
)

// Diff is what must be written to have one list of another.
func Diff(a, b []api.Pair) ([]api.Write, api.Errno) {
	if len(a) > api.MaxList || len(b) > api.MaxList {
		return nil, api.ErrMany
	}
	if !rises(a) || !rises(b) {
		return nil, api.ErrRange
	}
	var l []api.Write
	for _, x := range b {
		if at, is := find(a, x.Key); !is || a[at].Val != x.Val {
			l = append(l, api.Write{Key: x.Key, Val: x.Val})
		}
	}
	for _, x := range a {
		if _, is := find(b, x.Key); !is {
			l = append(l, api.Write{Key: x.Key, Gone: true})
		}
	}
	slices.SortFunc(l, func(x, y api.Write) int { return strings.Compare(x.Key, y.Key) })
	return l, api.OK
}

// rises tells whether keys rise, none standing twice.
func rises(l []api.Pair) bool {
	for i := range l[:max(len(l)-1, 0)] {
		if l[i].Key >= l[i+1].Key {
			return false
		}
	}
	return true
}

// find is the place of a key in a list that rises, or where it would be, and whether it is there.
func find(l []api.Pair, key string) (int, bool) {
	return slices.BinarySearchFunc(l, key, func(x api.Pair, key string) int { return strings.Compare(x.Key, key) })
}
