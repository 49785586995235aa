package mvcc

import (
	"cmp"
	"slices"
	"strings"

	"lading/api"
)

// Put has keys be otherwise from a time on, which is behind all times that there are.
func Put(v api.Versions, l []api.Write, t uint64) (api.Versions, api.Errno) {
	if why := refused(v, l, t); why != api.OK {
		return api.Versions{}, why
	}
	list := slices.Clone(v.List)
	for _, w := range l {
		x := api.Version{Key: w.Key, At: t, Gone: w.Gone}
		if !w.Gone {
			x.Val = w.Val
		}
		list = append(list, x)
	}
	slices.SortFunc(list, func(x, y api.Version) int {
		return cmp.Or(strings.Compare(x.Key, y.Key), cmp.Compare(x.At, y.At))
	})
	return api.Versions{List: list, Low: v.Low}, api.OK
}

// Sweep forgets what nobody asks for who asks as of low or later.
func Sweep(v api.Versions, low uint64) (api.Versions, api.Errno) {
	switch why := Check(v); {
	case why != api.OK:
		return api.Versions{}, why
	case low < v.Low:
		return api.Versions{}, api.ErrState
	case low > lastTime:
		return api.Versions{}, api.ErrRange
	}
	swept := api.Versions{Low: low}
	every := func(string) bool { return true }
	for _, l := range byKey(v.List, every) {
		swept.List = append(swept.List, needed(l, low)...)
	}
	return swept, api.OK
}

// needed are those of a key's versions that are seen as of low or later.
func needed(l []api.Version, low uint64) []api.Version {
	for len(l) > 1 && l[1].At <= low {
		l = l[1:]
	}
	if l[0].Gone && l[0].At <= low {
		l = l[1:]
	}
	return l
}

// refused tells why writes can't be put to versions.
func refused(v api.Versions, l []api.Write, t uint64) api.Errno {
	late := func(x api.Version) bool { return x.At >= t }
	long := func(w api.Write) bool { return len(w.Key) > api.MaxKey || len(w.Val) > api.MaxValue }
	switch why := Check(v); {
	case why != api.OK:
		return why
	case len(l) > api.MaxList:
		return api.ErrMany
	case slices.ContainsFunc(l, long):
		return api.ErrLong
	case twice(l):
		return api.ErrTwice
	case !isTime(t):
		return api.ErrRange
	case t < v.Low || slices.ContainsFunc(v.List, late):
		return api.ErrState
	case len(v.List)+len(l) > api.MaxList:
		return api.ErrMany
	}
	return api.OK
}

// twice tells whether a key is there more than once.
func twice(l []api.Write) bool {
	rising := func(x, y api.Write) int { return strings.Compare(x.Key, y.Key) }
	same := func(x, y api.Write) bool { return x.Key == y.Key }
	sorted := slices.SortedFunc(slices.Values(l), rising)
	return len(slices.CompactFunc(sorted, same)) < len(l)
}
