package mvcc_test

import (
	"fmt"
	"math"
	"slices"
	"strings"
	"testing"

	"lading/api"
	"lading/mvcc"
)

const lastTime = uint64(1) << 61

func must(t *testing.T, why api.Errno) {
	t.Helper()
	if why != api.OK {
		t.Fatal("error", why)
	}
}

func versions(low uint64, l ...api.Version) api.Versions {
	return api.Versions{List: l, Low: low}
}

func is(key string, at uint64, val string) api.Version {
	return api.Version{Key: key, At: at, Val: val}
}

func gone(key string, at uint64) api.Version {
	return api.Version{Key: key, At: at, Gone: true}
}

func same(v, u api.Versions) bool {
	return v.Low == u.Low && slices.Equal(v.List, u.List)
}

func copied(v api.Versions) api.Versions {
	return api.Versions{List: slices.Clone(v.List), Low: v.Low}
}

// many are n versions of as many keys, at the time at.
func many(n int, at uint64) []api.Version {
	var l []api.Version
	for i := range n {
		l = append(l, is(fmt.Sprintf("%05d", i), at, "v"))
	}
	return l
}

// seen is what a key is as of a time, as the document words it: what its last version with an At of at most t has.
func seen(v api.Versions, key string, t uint64) (string, bool) {
	var last api.Version
	found := false
	for _, x := range v.List {
		if x.Key == key && x.At <= t {
			last, found = x, true
		}
	}
	if !found || last.Gone {
		return "", false
	}
	return last.Val, true
}

// wrongs are versions that are not right, each in one way alone.
func wrongs() map[string]api.Versions {
	long, longer := strings.Repeat("k", api.MaxKey+1), strings.Repeat("v", api.MaxValue+1)
	return map[string]api.Versions{
		"too many":                 versions(0, many(api.MaxList+1, 1)...),
		"too many of one key":      {List: times(api.MaxList + 1)},
		"keys that fall":           versions(0, is("b", 1, "1"), is("a", 2, "2")),
		"keys that fall at last":   versions(0, is("a", 1, "1"), is("b", 1, "2"), is("c", 1, "3"), is("bb", 2, "4")),
		"a key that comes again":   versions(0, is("a", 1, "1"), is("b", 1, "2"), is("a", 2, "3")),
		"a key behind a longer":    versions(0, is("ab", 1, "1"), is("a", 1, "2")),
		"keys that fall as bytes":  versions(0, is("\xff", 1, "1"), is("z", 1, "2")),
		"times that stay":          versions(0, is("a", 3, "1"), is("a", 3, "2")),
		"times that stay, gone":    versions(0, is("a", 3, "1"), gone("a", 3)),
		"times that fall":          versions(0, is("a", 3, "1"), is("a", 2, "2")),
		"times that fall at last":  versions(0, is("a", 1, "1"), is("b", 1, ""), is("b", 5, "2"), gone("b", 4)),
		"a time of 0":              versions(0, is("a", 0, "1")),
		"a time of 0, gone":        versions(0, is("a", 1, "1"), gone("b", 0)),
		"a time above 2^61":        versions(0, is("a", lastTime+1, "1")),
		"the greatest time":        versions(0, is("a", math.MaxUint64, "1")),
		"a later time above 2^61":  versions(0, is("a", 1, "1"), is("a", lastTime+1, "2")),
		"a Val where Gone":         versions(0, api.Version{Key: "a", At: 1, Val: "1", Gone: true}),
		"a Val where Gone, behind": versions(0, is("a", 1, "1"), api.Version{Key: "a", At: 2, Val: "\x00", Gone: true}),
		"a key too long":           versions(0, is(long, 1, "1")),
		"a key too long, gone":     versions(0, is("a", 1, "1"), gone(long, 2)),
		"a value too long":         versions(0, is("a", 1, longer)),
		"a value too long, behind": versions(0, is("a", 1, "1"), is("b", 2, longer)),
		"a Low above 2^61":         {Low: lastTime + 1},
		"the greatest Low":         versions(math.MaxUint64, is("a", 1, "1")),
	}
}

// times are n versions of one key.
func times(n int) []api.Version {
	var l []api.Version
	for i := range n {
		l = append(l, is("a", uint64(i+1), "v"))
	}
	return l
}

// Promise 9.1: versions that are not right, in each way, are ErrRange for every call, ahead of all else that is wrong, and with nothing beside it.
func TestVersionsThatAreNotRight(t *testing.T) {
	tooMany := make([]api.Write, api.MaxList+1)
	tooLong := []api.Write{{Key: strings.Repeat("k", api.MaxKey+1)}}
	for name, v := range wrongs() {
		kept := copied(v)
		if why := mvcc.Check(v); why != api.ErrRange {
			t.Error("Check,", name, ": error", why)
		}
		for _, at := range []uint64{0, 1, lastTime, math.MaxUint64} {
			if s, is, why := mvcc.Get(v, "a", at); s != "" || is || why != api.ErrRange {
				t.Error("Get,", name, at, ":", s, is, why)
			}
			if l, why := mvcc.Scan(v, "", "", at); len(l) != 0 || why != api.ErrRange {
				t.Error("Scan,", name, at, ":", l, why)
			}
			for _, l := range [][]api.Write{nil, {{Key: "x", Val: "1"}}, tooMany, tooLong} {
				if u, why := mvcc.Put(v, l, at); len(u.List) != 0 || u.Low != 0 || why != api.ErrRange {
					t.Error("Put,", name, at, len(l), ":", len(u.List), u.Low, why)
				}
			}
			if u, why := mvcc.Sweep(v, at); len(u.List) != 0 || u.Low != 0 || why != api.ErrRange {
				t.Error("Sweep,", name, at, ":", len(u.List), u.Low, why)
			}
		}
		if n, why := mvcc.Last(v, "a"); n != 0 || why != api.ErrRange {
			t.Error("Last,", name, ":", n, why)
		}
		if !same(v, kept) {
			t.Error(name, ": versions that were handed in have changed")
		}
	}
}

// Promise 9.1: versions at the edges of each limit are right, for every call.
func TestVersionsThatAreRight(t *testing.T) {
	rights := map[string]api.Versions{
		"none":                     {},
		"an empty list":            {List: []api.Version{}, Low: 3},
		"the greatest Low":         {Low: lastTime},
		"a Low above all times":    versions(9, is("a", 1, "1"), is("b", 2, "2")),
		"as many as may be":        versions(0, many(api.MaxList, 1)...),
		"as many of one key":       {List: times(api.MaxList)},
		"the empty key":            versions(0, is("", 1, "1"), is("", 2, ""), is("\x00", 1, "2")),
		"the first and last time":  versions(0, is("a", 1, "1"), is("a", lastTime, "2")),
		"a fall between keys":      versions(0, is("a", 7, "1"), is("b", 3, "2"), gone("b", 4), is("c", 4, "3")),
		"gone first, gone twice":   versions(0, gone("a", 1), gone("a", 2), is("a", 3, "1"), gone("b", 1)),
		"an empty value, not gone": versions(0, is("a", 1, "")),
		"the longest":              versions(0, is(strings.Repeat("k", api.MaxKey), 1, strings.Repeat("v", api.MaxValue))),
		"keys by their bytes":      versions(0, is("z", 1, "1"), is("\xff", 1, "2"), is("\xff\x00", 1, "2")),
		"a key ahead of a longer":  versions(0, is("a", 1, "1"), is("a\x00", 1, "2"), is("ab", 1, "3")),
	}
	for name, v := range rights {
		if why := mvcc.Check(v); why != api.OK {
			t.Error("Check,", name, ": error", why)
		}
		if _, _, why := mvcc.Get(v, "a", math.MaxUint64); why != api.OK {
			t.Error("Get,", name, ": error", why)
		}
		if _, why := mvcc.Scan(v, "", "", math.MaxUint64); why != api.OK {
			t.Error("Scan,", name, ": error", why)
		}
		if _, why := mvcc.Last(v, "a"); why != api.OK {
			t.Error("Last,", name, ": error", why)
		}
		if u, why := mvcc.Sweep(v, lastTime); why != api.OK || u.Low != lastTime {
			t.Error("Sweep,", name, ": error", why)
		}
	}
}

// Promise 9.1: a key as of times ahead of, at, between and behind its versions.
func TestGetAsOfEachTime(t *testing.T) {
	v := versions(0, is("a", 2, "1"), is("a", 4, "2"), gone("a", 6), is("a", 8, "3"), gone("b", 3), is("c", 5, ""), is("d", lastTime, "4"))
	cases := []struct {
		key  string
		from uint64 // up to the next line's
		val  string
		is   bool
	}{
		{"a", 0, "", false}, {"a", 1, "", false}, {"a", 2, "1", true}, {"a", 3, "1", true}, {"a", 4, "2", true}, {"a", 5, "2", true},
		{"a", 6, "", false}, {"a", 7, "", false}, {"a", 8, "3", true}, {"a", 9, "3", true}, {"a", lastTime, "3", true}, {"a", math.MaxUint64, "3", true},
		{"b", 2, "", false}, {"b", 3, "", false}, {"b", 4, "", false},
		{"c", 4, "", false}, {"c", 5, "", true}, {"c", 6, "", true},
		{"d", lastTime - 1, "", false}, {"d", lastTime, "4", true}, {"d", lastTime + 1, "4", true}, {"d", math.MaxUint64, "4", true},
		{"", 9, "", false}, {"aa", 9, "", false}, {"e", 9, "", false}, {"a\x00", 9, "", false}, {strings.Repeat("a", api.MaxKey+1), 9, "", false},
	}
	for _, c := range cases {
		if s, is, why := mvcc.Get(v, c.key, c.from); s != c.val || is != c.is || why != api.OK {
			t.Error("Get of", c.key, "as of", c.from, ":", s, is, why, "and not", c.val, c.is)
		}
	}
}

// Promise 9.1: nothing below Low is seen, whatever is there; Low itself and all above it is.
func TestNothingIsSeenBelowLow(t *testing.T) {
	for _, low := range []uint64{0, 1, 5, lastTime - 1, lastTime} {
		for _, v := range []api.Versions{versions(low), versions(low, is("a", 1, "1"), is("a", 5, "2"))} {
			for _, at := range []uint64{0, 1, 4, 5, 6, low - 1, low, low + 1, lastTime, math.MaxUint64} {
				want := api.OK
				if at < low {
					want = api.ErrState
				}
				for _, key := range []string{"a", "b"} {
					s, is, why := mvcc.Get(v, key, at)
					if why != want || why != api.OK && (s != "" || is) {
						t.Error("Get, Low", low, "as of", at, ":", s, is, why)
					}
				}
				l, why := mvcc.Scan(v, "", "", at)
				if why != want || why != api.OK && len(l) != 0 {
					t.Error("Scan, Low", low, "as of", at, ":", l, why)
				}
				if n, why := mvcc.Last(v, "b"); n != 0 || why != api.OK {
					t.Error("Last, Low", low, ":", n, why)
				}
			}
		}
	}
}

// bounds are ahead of, at, between and behind the keys "", a, ab, b and \xff.
func bounds() []string {
	return []string{"", "\x00", "A", "a", "a\x00", "aa", "ab", "abc", "b", "b\x00", "c", "\xff", "\xff\xff", strings.Repeat("a", api.MaxKey+1), strings.Repeat("\xff", 2*api.MaxText)}
}

// Promises 9.1, 9.8: a scan with any bounds has just what is got, key by key, rising.
func TestScanHasWhatIsGot(t *testing.T) {
	v := versions(2,
		is("", 1, "0"), gone("", 4), is("a", 1, "1"), is("a", 3, "2"), gone("ab", 1), is("ab", 2, "3"), gone("ab", 3), is("ab", 5, "4"),
		is("b", 3, ""), is("b", 5, "5"), gone("\xff", 2), is("\xff", 4, "6"))
	keys := []string{"", "a", "ab", "b", "\xff"}
	for at := uint64(2); at < 7; at++ {
		for _, from := range bounds() {
			for _, to := range bounds() {
				var want []api.Pair
				for _, k := range keys {
					if s, is := seen(v, k, at); is && k >= from && (to == "" || k < to) {
						want = append(want, api.Pair{Key: k, Val: s})
					}
				}
				if l, why := mvcc.Scan(v, from, to, at); !slices.Equal(l, want) || why != api.OK {
					t.Fatalf("Scan from %q to %q as of %d: %v %d, and not %v", from, to, at, l, why, want)
				}
			}
		}
		for _, k := range append(bounds(), keys...) {
			s, is := seen(v, k, at)
			if got, there, why := mvcc.Get(v, k, at); got != s || there != is || why != api.OK {
				t.Errorf("Get of %q as of %d: %q %t %d, and not %q %t", k, at, got, there, why, s, is)
			}
		}
	}
}

// Promise 9.2: Last is the greatest time of a key's versions, also where it is gone, and wherever Low is.
func TestLast(t *testing.T) {
	v := versions(lastTime, is("", 3, ""), is("a", 1, "1"), is("a", 7, "2"), gone("b", 2), gone("b", 5), is("c", lastTime, "3"))
	for key, want := range map[string]uint64{"": 3, "a": 7, "b": 5, "c": lastTime, "d": 0, "A": 0, "aa": 0, "a\x00": 0, strings.Repeat("k", api.MaxText): 0} {
		if n, why := mvcc.Last(v, key); n != want || why != api.OK {
			t.Errorf("Last of %q: %d %d, and not %d", key, n, why, want)
		}
	}
	if n, why := mvcc.Last(api.Versions{}, ""); n != 0 || why != api.OK {
		t.Error("Last of none:", n, why)
	}
}

// Promise 9.4: what is answered shares no memory with what was handed in, nor with another answer.
func TestAnswersAreNewMemory(t *testing.T) {
	big := make([]api.Version, 2, 64)
	big[0], big[1] = is("a", 1, "1"), is("b", 2, "2")
	v := api.Versions{List: big}
	writes := make([]api.Write, 2, 64)
	writes[0], writes[1] = api.Write{Key: "b", Val: "3"}, api.Write{Key: "a", Val: "hidden", Gone: true}
	kept, keptWrites := copied(v), slices.Clone(writes)

	u1, why := mvcc.Put(v, writes, 3)
	must(t, why)
	u2, why := mvcc.Put(v, writes, 3)
	must(t, why)
	u3, why := mvcc.Put(v, nil, 3)
	must(t, why)
	s1, why := mvcc.Sweep(v, 1)
	must(t, why)
	s2, why := mvcc.Sweep(v, 1)
	must(t, why)
	p1, why := mvcc.Scan(v, "", "", 2)
	must(t, why)
	p2, why := mvcc.Scan(v, "", "", 2)
	must(t, why)
	lists := [][]api.Version{u1.List, u2.List, u3.List, s1.List, s2.List}
	was := make([][]api.Version, len(lists))
	for i, l := range lists {
		was[i] = slices.Clone(l)
	}
	for i, l := range lists {
		scribble(l)
		for j := i + 1; j < len(lists); j++ {
			if !slices.Equal(lists[j], was[j]) {
				t.Fatal("answers", i, "and", j, "share memory")
			}
		}
	}
	scribble(p1)
	if !slices.Equal(p2, []api.Pair{{Key: "a", Val: "1"}, {Key: "b", Val: "2"}}) {
		t.Error("scans share memory:", p2)
	}
	if !same(v, kept) || !slices.Equal(writes, keptWrites) {
		t.Error("what was handed in has changed:", v, writes)
	}
	if slices.ContainsFunc(big[:64][2:], func(x api.Version) bool { return x != api.Version{} }) {
		t.Error("something was written behind what was handed in")
	}
	if slices.ContainsFunc(writes[:64][2:], func(w api.Write) bool { return w != api.Write{} }) {
		t.Error("something was written behind the writes that were handed in")
	}
}

// scribble spoils a list up to its capacity.
func scribble[T any](l []T) {
	var none T
	l = l[:cap(l)]
	for i := range l {
		l[i] = none
	}
}

// Promises 9.1 to 9.3: the chapter's example.
func TestExample(t *testing.T) {
	v, why := mvcc.Put(api.Versions{}, []api.Write{{Key: "a", Val: "1"}}, 1)
	must(t, why)
	v, why = mvcc.Put(v, []api.Write{{Key: "a", Gone: true}, {Key: "b", Val: "2"}}, 5)
	must(t, why)
	if s, is, why := mvcc.Get(v, "a", 4); s != "1" || !is || why != api.OK {
		t.Error("as of 4:", s, is, why)
	}
	if l, why := mvcc.Scan(v, "", "", 5); !slices.Equal(l, []api.Pair{{Key: "b", Val: "2"}}) || why != api.OK {
		t.Error("as of 5:", l, why)
	}
	u, why := mvcc.Sweep(v, 5)
	if !same(u, versions(5, is("b", 5, "2"))) || why != api.OK {
		t.Error("Sweep:", u, why)
	}
	if s, is, why := mvcc.Get(u, "a", 4); s != "" || is || why != api.ErrState {
		t.Error("as of 4, swept:", s, is, why)
	}
}
