package image_test

import (
	"fmt"
	"maps"
	"math/rand/v2"
	"slices"
	"testing"

	"lading/api"
	"lading/image"
)

// pairs are keys and values by turns.
func pairs(l ...string) []api.Pair {
	var p []api.Pair
	for i := 0; i < len(l); i += 2 {
		p = append(p, api.Pair{Key: l[i], Val: l[i+1]})
	}
	return p
}

func put(key, val string) api.Write { return api.Write{Key: key, Val: val} }

func gone(key string) api.Write { return api.Write{Key: key, Gone: true} }

// many are n entries.
func many(n int, val string) []api.Pair {
	var l []api.Pair
	for i := range n {
		l = append(l, api.Pair{Key: fmt.Sprintf("k%06d", i), Val: val})
	}
	return l
}

// done is a list with writes done.
func done(l []api.Pair, writes []api.Write) []api.Pair {
	m := map[string]string{}
	for _, x := range l {
		m[x.Key] = x.Val
	}
	for _, w := range writes {
		if delete(m, w.Key); !w.Gone {
			m[w.Key] = w.Val
		}
	}
	var k []api.Pair
	for _, key := range slices.Sorted(maps.Keys(m)) {
		k = append(k, api.Pair{Key: key, Val: m[key]})
	}
	return k
}

// differs tells what Diff answers, that its writes done are b, and that it changes nothing.
func differs(t *testing.T, a, b []api.Pair, want []api.Write) {
	t.Helper()
	c, d := slices.Clone(a), slices.Clone(b)
	l, why := image.Diff(a, b)
	if !slices.Equal(l, want) || why != api.OK {
		t.Errorf("Diff of %.200q and %.200q: %.200v, error %d, and not %.200v", a, b, l, why, want)
	}
	if !slices.Equal(done(a, l), b) {
		t.Errorf("Diff of %.200q and %.200q does not come to that: %.200v", a, b, l)
	}
	if !slices.Equal(a, c) || !slices.Equal(b, d) {
		t.Error("Diff has changed what it was handed")
	}
}

// Promises 18.2 and 18.6: keys that are in one list alone, in both with like and with unlike values, in lists that are empty or nil.
func TestDiff(t *testing.T) {
	differs(t, nil, nil, nil)
	differs(t, []api.Pair{}, nil, nil)
	differs(t, nil, pairs("a", "1", "b", "2"), []api.Write{put("a", "1"), put("b", "2")})
	differs(t, pairs("a", "1", "b", "2"), nil, []api.Write{gone("a"), gone("b")})
	differs(t, pairs("a", "1", "b", "2"), []api.Pair{}, []api.Write{gone("a"), gone("b")})
	differs(t, pairs("a", "1", "b", "2"), pairs("a", "1", "b", "2"), nil)
	differs(t, pairs("a", "1", "b", "2"), pairs("a", "1", "b", "3"), []api.Write{put("b", "3")})
	differs(t, pairs("a", "1", "b", "2"), pairs("a", "2", "b", "1"), []api.Write{put("a", "2"), put("b", "1")})
	differs(t, pairs("b", "2", "d", "4"), pairs("a", "1", "c", "3", "e", "5"), []api.Write{put("a", "1"), gone("b"), put("c", "3"), gone("d"), put("e", "5")})
	differs(t, pairs("a", "1", "c", "3", "e", "5"), pairs("b", "2", "c", "3", "d", "4"), []api.Write{gone("a"), put("b", "2"), put("d", "4"), gone("e")})
	differs(t, pairs("", "1"), pairs("a", ""), []api.Write{gone(""), put("a", "")})
	differs(t, pairs("a", ""), pairs("", "1", "a", "1"), []api.Write{put("", "1"), put("a", "1")})
	differs(t, pairs("a", "1"), pairs("a", "", "a\x00", "1", "\xff", "2"), []api.Write{put("a", ""), put("a\x00", "1"), put("\xff", "2")})
	differs(t, pairs("a", "", "b", ""), pairs("b", ""), []api.Write{gone("a")})
}

// Promise 18.2: lists of just MaxList entries are taken, one more is ErrMany, in either list, ahead of keys that do not rise.
func TestDiffOfTooMany(t *testing.T) {
	most, more := many(api.MaxList, "v"), many(api.MaxList+1, "v")
	differs(t, most, most, nil)
	differs(t, most, many(api.MaxList-1, "v"), []api.Write{gone("k004095")})
	falls := slices.Clone(more)
	slices.Reverse(falls)
	for _, l := range [][]api.Pair{more, falls, make([]api.Pair, 3*api.MaxList)} {
		for _, other := range [][]api.Pair{nil, pairs("a", "1"), pairs("b", "1", "a", "1"), most, more, falls} {
			for _, x := range [][2][]api.Pair{{l, other}, {other, l}} {
				if w, why := image.Diff(x[0], x[1]); len(w) != 0 || why != api.ErrMany {
					t.Errorf("Diff of %d and %d: %d, error %d", len(x[0]), len(x[1]), len(w), why)
				}
			}
		}
	}
}

// Promise 18.2: ErrRange of keys that fall or stand twice, at any place of either list, with nothing beside it.
func TestDiffOfKeysThatDoNotRise(t *testing.T) {
	good := pairs("a", "1", "b", "2", "c", "3", "d", "4")
	for i := range 3 {
		falls, twice, both := slices.Clone(good), slices.Clone(good), slices.Clone(good)
		falls[i], falls[i+1] = falls[i+1], falls[i]
		twice[i].Key = twice[i+1].Key
		both[i] = both[i+1]
		for _, l := range [][]api.Pair{falls, twice, both} {
			for _, other := range [][]api.Pair{nil, good, l} {
				for _, x := range [][2][]api.Pair{{l, other}, {other, l}} {
					if w, why := image.Diff(x[0], x[1]); len(w) != 0 || why != api.ErrRange {
						t.Errorf("Diff of %q and %q: %v, error %d", x[0], x[1], w, why)
					}
				}
			}
		}
	}
	for _, l := range [][]api.Pair{pairs("", "1", "", "2"), pairs("a", "1", "", "2"), pairs("ab", "1", "a", "2"), pairs("\xff", "1", "a", "2"), append(many(api.MaxList-1, "v"), api.Pair{Key: "k004094"})} {
		if w, why := image.Diff(l, nil); len(w) != 0 || why != api.ErrRange {
			t.Errorf("Diff of %.100q: %v, error %d", l, w, why)
		}
	}
}

// Promises 18.2 and 18.6: of random lists each key is written just if it must be.
func TestDiffOfRandomLists(t *testing.T) {
	r := rand.New(rand.NewPCG(2, 18))
	list := func() []api.Pair {
		var l []api.Pair
		for key := range 20 {
			if r.IntN(2) == 0 {
				l = append(l, api.Pair{Key: fmt.Sprintf("%02d", key), Val: fmt.Sprint(r.IntN(2))})
			}
		}
		return l
	}
	for range 4000 {
		a, b := list(), list()
		var want []api.Write
		for key := range 20 {
			is := func(x api.Pair) bool { return x.Key == fmt.Sprintf("%02d", key) }
			i, j := slices.IndexFunc(a, is), slices.IndexFunc(b, is)
			switch {
			case j >= 0 && (i < 0 || a[i].Val != b[j].Val):
				want = append(want, put(b[j].Key, b[j].Val))
			case i >= 0 && j < 0:
				want = append(want, gone(a[i].Key))
			}
		}
		differs(t, a, b, want)
	}
}
