package mvcc_test

import (
	"fmt"
	"math"
	"math/rand/v2"
	"slices"
	"strings"
	"testing"

	"lading/api"
	"lading/mvcc"
)

func put(key, val string) api.Write { return api.Write{Key: key, Val: val} }

func drop(key string) api.Write { return api.Write{Key: key, Gone: true} }

// writesOf are n writes of as many keys, none of which many has.
func writesOf(n int) []api.Write {
	var l []api.Write
	for i := range n {
		l = append(l, put(fmt.Sprintf("w%05d", i), "v"))
	}
	return l
}

// Promise 9.2: each error of Put, at its edge, in the order in which they are named; nothing is answered beside one.
func TestPutIsRefused(t *testing.T) {
	longKey, longVal := strings.Repeat("k", api.MaxKey+1), strings.Repeat("v", api.MaxValue+1)
	v := versions(3, is("a", 2, "1"), is("b", 5, "2"))
	tooMany := append(writesOf(api.MaxList), put(longKey, ""), put(longKey, ""))
	full := versions(2, many(api.MaxList, 5)...)
	cases := []struct {
		name string
		v    api.Versions
		l    []api.Write
		t    uint64
		why  api.Errno
	}{
		{"too many, too long, twice, at 0", v, tooMany, 0, api.ErrMany},
		{"too many", v, writesOf(api.MaxList + 1), 6, api.ErrMany},
		{"too long, twice, at 0", v, []api.Write{put("a", ""), put("a", longVal)}, 0, api.ErrLong},
		{"a key too long", v, []api.Write{put("a", ""), put(longKey, "")}, 6, api.ErrLong},
		{"a key too long, gone", v, []api.Write{drop(longKey)}, 6, api.ErrLong},
		{"a value too long", v, []api.Write{put("a", longVal)}, 6, api.ErrLong},
		{"a value too long, gone", v, []api.Write{{Key: "a", Val: longVal, Gone: true}}, 6, api.ErrLong},
		{"twice, at 0", v, []api.Write{put("a", ""), put("b", ""), put("a", "")}, 0, api.ErrTwice},
		{"twice, far", v, []api.Write{put("a", ""), put("a", "")}, lastTime + 1, api.ErrTwice},
		{"twice, too early", v, []api.Write{put("c", "1"), put("c", "1")}, 1, api.ErrTwice},
		{"twice, next to one another", v, []api.Write{put("c", "1"), drop("c")}, 6, api.ErrTwice},
		{"twice, as many as may be", full, append(writesOf(api.MaxList-1), put("w00000", "")), 6, api.ErrTwice},
		{"at 0, below Low", v, []api.Write{put("c", "")}, 0, api.ErrRange},
		{"at 0", api.Versions{}, nil, 0, api.ErrRange},
		{"far", v, nil, lastTime + 1, api.ErrRange},
		{"farthest", v, nil, math.MaxUint64, api.ErrRange},
		{"far, too many would be", full, writesOf(1), lastTime + 1, api.ErrRange},
		{"below Low", v, nil, 2, api.ErrState},
		{"below Low, of none", versions(7), nil, 6, api.ErrState},
		{"below the greatest Low", versions(lastTime), []api.Write{put("a", "")}, lastTime - 1, api.ErrState},
		{"at Low, below a version", v, nil, 3, api.ErrState},
		{"below a version", v, []api.Write{put("a", "")}, 4, api.ErrState},
		{"at a version", v, []api.Write{put("a", "")}, 5, api.ErrState},
		{"at a version of another key, gone", versions(0, gone("b", 9)), []api.Write{put("a", "")}, 9, api.ErrState},
		{"at the last time, which is there", versions(0, is("a", lastTime, "")), []api.Write{put("b", "")}, lastTime, api.ErrState},
		{"at a version, too many would be", full, writesOf(1), 5, api.ErrState},
		{"one more than may be", full, writesOf(1), 6, api.ErrMany},
		{"one more of a key that there is", full, []api.Write{put("00000", "")}, 6, api.ErrMany},
		{"one more that is gone", full, []api.Write{drop("00000")}, 6, api.ErrMany},
		{"all more than may be", full, writesOf(api.MaxList), 6, api.ErrMany},
		{"one more than may be, of few", v, writesOf(api.MaxList - 1), 6, api.ErrMany},
	}
	for _, c := range cases {
		kept, writes := copied(c.v), slices.Clone(c.l)
		u, why := mvcc.Put(c.v, c.l, c.t)
		if why != c.why || len(u.List) != 0 || u.Low != 0 {
			t.Error(c.name, ":", len(u.List), u.Low, why, "and not", c.why)
		}
		if !same(c.v, kept) || !slices.Equal(c.l, writes) {
			t.Error(c.name, ": what was handed in has changed")
		}
	}
}

// Promise 9.2: each write is a version more, in its place; of what is gone the value is empty; Low stays.
func TestPut(t *testing.T) {
	longKey, longVal := strings.Repeat("k", api.MaxKey), strings.Repeat("v", api.MaxValue)
	v := versions(3, is("b", 2, "1"), gone("b", 4), is("d", 1, "2"))
	cases := []struct {
		name string
		v    api.Versions
		l    []api.Write
		t    uint64
		want api.Versions
	}{
		{"nothing to nothing", api.Versions{}, nil, 1, api.Versions{}},
		{"nothing to some", v, []api.Write{}, 5, v},
		{"nothing, at the last time", v, nil, lastTime, v},
		{"at the first time", api.Versions{}, []api.Write{put("a", "1")}, 1, versions(0, is("a", 1, "1"))},
		{"at Low", versions(7), []api.Write{put("a", "1")}, 7, versions(7, is("a", 7, "1"))},
		{"at the greatest Low", versions(lastTime), []api.Write{put("a", "1")}, lastTime, versions(lastTime, is("a", lastTime, "1"))},
		{"behind all", v, []api.Write{put("e", "3")}, 5, versions(3, is("b", 2, "1"), gone("b", 4), is("d", 1, "2"), is("e", 5, "3"))},
		{"ahead of all", v, []api.Write{put("", "3")}, 5, versions(3, is("", 5, "3"), is("b", 2, "1"), gone("b", 4), is("d", 1, "2"))},
		{"between", v, []api.Write{put("c", "3")}, 9, versions(3, is("b", 2, "1"), gone("b", 4), is("c", 9, "3"), is("d", 1, "2"))},
		{"of those that there are", v, []api.Write{put("d", "3"), put("b", "4")}, 6, versions(3, is("b", 2, "1"), gone("b", 4), is("b", 6, "4"), is("d", 1, "2"), is("d", 6, "3"))},
		{"gone, whatever it was", v, []api.Write{drop("b"), drop("c"), drop("d")}, 5, versions(3, is("b", 2, "1"), gone("b", 4), gone("b", 5), gone("c", 5), is("d", 1, "2"), gone("d", 5))},
		{"gone with a value", v, []api.Write{{Key: "d", Val: "x", Gone: true}}, 5, versions(3, is("b", 2, "1"), gone("b", 4), is("d", 1, "2"), gone("d", 5))},
		{"gone with the longest value", api.Versions{}, []api.Write{{Key: "d", Val: longVal, Gone: true}}, 5, versions(0, gone("d", 5))},
		{"an empty value", v, []api.Write{put("d", "")}, 5, versions(3, is("b", 2, "1"), gone("b", 4), is("d", 1, "2"), is("d", 5, ""))},
		{"what it is already", v, []api.Write{put("d", "2")}, 5, versions(3, is("b", 2, "1"), gone("b", 4), is("d", 1, "2"), is("d", 5, "2"))},
		{"the longest", api.Versions{}, []api.Write{put(longKey, longVal)}, 2, versions(0, is(longKey, 2, longVal))},
		{"keys by their bytes", api.Versions{}, []api.Write{put("\xff", "1"), put("z", "2"), put("", "3"), put("\x00", "4")}, 2, versions(0, is("", 2, "3"), is("\x00", 2, "4"), is("z", 2, "2"), is("\xff", 2, "1"))},
	}
	for _, c := range cases {
		if u, why := mvcc.Put(c.v, c.l, c.t); !same(u, c.want) || why != api.OK {
			t.Error(c.name, ":", u, why, "and not", c.want)
		}
	}
}

// Promise 9.2: there may be MaxList writes at once, and MaxList versions.
func TestPutUpToAsManyAsMayBe(t *testing.T) {
	l := writesOf(api.MaxList)
	slices.Reverse(l)
	v, why := mvcc.Put(api.Versions{}, l, 3)
	if len(v.List) != api.MaxList || why != api.OK || mvcc.Check(v) != api.OK {
		t.Fatal("all at once:", len(v.List), why)
	}
	if u, why := mvcc.Put(v, nil, 4); !same(u, v) || why != api.OK {
		t.Error("nothing to as many as may be:", len(u.List), why)
	}
	u := versions(0, many(api.MaxList-1, 1)...)
	u, why = mvcc.Put(u, []api.Write{put("00001", "new")}, 2)
	if len(u.List) != api.MaxList || why != api.OK {
		t.Fatal("the last one that may be:", len(u.List), why)
	}
	if s, is, why := mvcc.Get(u, "00001", 2); s != "new" || !is || why != api.OK {
		t.Error("Get of the last one:", s, is, why)
	}
	u, why = mvcc.Sweep(u, 2)
	if len(u.List) != api.MaxList-1 || why != api.OK {
		t.Fatal("Sweep:", len(u.List), why)
	}
	if _, why = mvcc.Put(u, []api.Write{drop("00001")}, 3); why != api.OK {
		t.Error("one more behind a sweep: error", why)
	}
}

// Promise 9.3: what a sweep leaves, at every time; back is ErrState, beyond 2^61 ErrRange.
func TestSweep(t *testing.T) {
	v := versions(2, is("a", 1, "1"), is("a", 3, "2"), gone("a", 5), is("a", 7, "3"), gone("b", 2), is("b", 4, "4"), gone("c", 3), gone("c", 6), is("d", 8, "5"))
	a1, a3, a5, a7 := v.List[0], v.List[1], v.List[2], v.List[3]
	b4, c3, c6, d8 := v.List[5], v.List[6], v.List[7], v.List[8]
	wants := map[uint64][]api.Version{
		2:        {a1, a3, a5, a7, b4, c3, c6, d8},
		3:        {a3, a5, a7, b4, c6, d8},
		4:        {a3, a5, a7, b4, c6, d8},
		5:        {a7, b4, c6, d8},
		6:        {a7, b4, d8},
		7:        {a7, b4, d8},
		8:        {a7, b4, d8},
		lastTime: {a7, b4, d8},
	}
	for low, want := range wants {
		u, why := mvcc.Sweep(v, low)
		if !same(u, api.Versions{List: want, Low: low}) || why != api.OK {
			t.Error("Sweep up to", low, ":", u, why)
		}
		if again, why := mvcc.Sweep(u, low); !same(again, u) || why != api.OK {
			t.Error("Sweep up to", low, "twice:", again, why)
		}
		if back, why := mvcc.Sweep(u, low-1); len(back.List) != 0 || back.Low != 0 || why != api.ErrState {
			t.Error("Sweep back from", low, ":", back, why)
		}
	}
	for low, want := range map[uint64]api.Errno{0: api.ErrState, 1: api.ErrState, lastTime + 1: api.ErrRange, math.MaxUint64: api.ErrRange} {
		if u, why := mvcc.Sweep(v, low); len(u.List) != 0 || u.Low != 0 || why != want {
			t.Error("Sweep up to", low, ":", u, why)
		}
	}
}

// Promise 9.3: what was gone ahead of anything is swept; a version at just the time stays; Low rises alone where nothing is to be swept.
func TestSweepAtTheEdges(t *testing.T) {
	cases := []struct {
		v    api.Versions
		low  uint64
		want api.Versions
	}{
		{api.Versions{}, 0, api.Versions{}},
		{api.Versions{}, 1, versions(1)},
		{versions(lastTime), lastTime, versions(lastTime)},
		{versions(0, is("a", 1, "1")), 0, versions(0, is("a", 1, "1"))},
		{versions(0, gone("a", 1)), 0, versions(0, gone("a", 1))},
		{versions(0, gone("a", 1)), 1, versions(1)},
		{versions(0, gone("a", 1), gone("a", 2)), 1, versions(1, gone("a", 2))},
		{versions(0, gone("a", 1), gone("a", 2)), 2, versions(2)},
		{versions(0, gone("a", 1), is("a", 2, "")), 2, versions(2, is("a", 2, ""))},
		{versions(0, is("a", 1, "1"), is("a", 2, "2")), 1, versions(1, is("a", 1, "1"), is("a", 2, "2"))},
		{versions(0, is("a", 1, "1"), is("a", 2, "2")), 2, versions(2, is("a", 2, "2"))},
		{versions(0, is("a", 1, "1"), gone("a", 2)), 1, versions(1, is("a", 1, "1"), gone("a", 2))},
		{versions(0, is("a", 1, "1"), gone("a", 2)), 2, versions(2)},
		{versions(0, is("a", 1, "1"), gone("a", 2), is("b", 9, "")), 2, versions(2, is("b", 9, ""))},
		{versions(0, is("a", lastTime, "1")), lastTime - 1, versions(lastTime-1, is("a", lastTime, "1"))},
		{versions(0, is("a", lastTime-1, "1"), gone("a", lastTime)), lastTime, versions(lastTime)},
		{versions(0, times(api.MaxList)...), api.MaxList, versions(api.MaxList, is("a", api.MaxList, "v"))},
		{versions(0, times(api.MaxList)...), api.MaxList - 1, versions(api.MaxList-1, is("a", api.MaxList-1, "v"), is("a", api.MaxList, "v"))},
	}
	for _, c := range cases {
		if u, why := mvcc.Sweep(c.v, c.low); !same(u, c.want) || why != api.OK {
			t.Error("Sweep of", len(c.v.List), "up to", c.low, ":", u, why, "and not", c.want)
		}
	}
}

// history is what there was as of each time, whole: the plainest thing that versions may be held against.
type history struct {
	states []map[string]string // by the time
	last   map[string]uint64   // of each key, the last time at which it was written
}

func (h *history) put(l []api.Write, t uint64) {
	now := map[string]string{}
	for k, s := range h.states[len(h.states)-1] {
		now[k] = s
	}
	for uint64(len(h.states)) < t { // as it was, till then
		h.states = append(h.states, h.states[len(h.states)-1])
	}
	for _, w := range l {
		if w.Gone {
			delete(now, w.Key)
		} else {
			now[w.Key] = w.Val
		}
		h.last[w.Key] = t
	}
	h.states = append(h.states, now)
}

// hold holds versions against what there was as of each time from Low on.
func (h *history) hold(t *testing.T, v api.Versions, keys []string) {
	t.Helper()
	for at := v.Low; at < uint64(len(h.states))+2; at++ {
		state := h.states[min(at, uint64(len(h.states)-1))]
		l, why := mvcc.Scan(v, "", "", at)
		if len(l) != len(state) || why != api.OK || !slices.IsSortedFunc(l, func(a, b api.Pair) int { return strings.Compare(a.Key, b.Key) }) {
			t.Fatal("Scan as of", at, ":", l, why, "and not", state)
		}
		for _, p := range l {
			if s, is := state[p.Key]; !is || s != p.Val {
				t.Fatal("Scan as of", at, "has", p)
			}
		}
		for _, k := range keys {
			want, there := state[k]
			if s, is, why := mvcc.Get(v, k, at); s != want || is != there || why != api.OK {
				t.Fatal("Get of", k, "as of", at, ":", s, is, why, "and not", want, there)
			}
		}
	}
}

// leastOf tells whether no key has two versions with an At of at most Low, nor one that is Gone.
func leastOf(v api.Versions) bool {
	for i, x := range v.List {
		if x.At <= v.Low && (x.Gone || i > 0 && v.List[i-1].Key == x.Key) {
			return false
		}
	}
	return true
}

// Promises 9.5 to 9.8: over long runs of writes and sweeps, every key is as of each time from Low on what it was; nothing is left that is not needed, nothing missing that is.
func TestLongRuns(t *testing.T) {
	keys := []string{"", "a", "aa", "b", "c", "\xff", "zz"}
	for seed := range uint64(150) {
		r := rand.New(rand.NewPCG(9, seed))
		h := &history{states: []map[string]string{{}}, last: map[string]uint64{}}
		var v api.Versions
		swept := false
		for step := range 40 {
			now := uint64(len(h.states) - 1)
			if r.IntN(4) > 0 {
				at := now + 1 + r.Uint64N(2)
				at = max(at, v.Low)
				var l []api.Write
				for _, i := range r.Perm(len(keys))[:r.IntN(len(keys))] {
					l = append(l, api.Write{Key: keys[i], Val: fmt.Sprint(step, i), Gone: r.IntN(3) == 0})
				}
				u, why := mvcc.Put(v, l, at)
				if why != api.OK || len(u.List) != len(v.List)+len(l) || u.Low != v.Low || mvcc.Check(u) != api.OK {
					t.Fatal("Put at", at, ":", u, why)
				}
				h.put(l, at)
				v = u
				for _, w := range l {
					if n, why := mvcc.Last(v, w.Key); n != at || why != api.OK {
						t.Fatal("Last of", w.Key, ":", n, why)
					}
				}
			} else {
				low := v.Low + r.Uint64N(now-min(now, v.Low)+2)
				u, why := mvcc.Sweep(v, low)
				if why != api.OK || u.Low != low || mvcc.Check(u) != api.OK || !leastOf(u) {
					t.Fatal("Sweep of", v, "up to", low, ":", u, why)
				}
				for _, x := range v.List {
					if x.At > low && !slices.Contains(u.List, x) {
						t.Fatal("Sweep up to", low, "took", x)
					}
				}
				v, swept = u, true
			}
			h.hold(t, v, keys)
			for _, k := range keys {
				n, why := mvcc.Last(v, k)
				if why != api.OK || n > h.last[k] || !swept && n != h.last[k] || h.last[k] > v.Low && n != h.last[k] {
					t.Fatal("Last of", k, ":", n, why, "and not", h.last[k])
				}
			}
		}
	}
}
