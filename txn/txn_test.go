package txn_test

import (
	"fmt"
	"math"
	"slices"
	"strings"
	"testing"

	"lading/api"
	"lading/txn"
)

func must(t *testing.T, why api.Errno) {
	t.Helper()
	if why != api.OK {
		t.Fatal("error", why)
	}
}

// pairs are keys and values in turn.
func pairs(words ...string) []api.Pair {
	var l []api.Pair
	for i := 0; i < len(words); i += 2 {
		l = append(l, api.Pair{Key: words[i], Val: words[i+1]})
	}
	return l
}

// manager is one with keys and values in turn.
func manager(t *testing.T, words ...string) *txn.Manager {
	t.Helper()
	m, why := txn.New(pairs(words...))
	if m == nil || why != api.OK {
		t.Fatal("New: error", why)
	}
	return m
}

func begun(t *testing.T, m *txn.Manager) int {
	t.Helper()
	tx, why := m.Begin()
	must(t, why)
	return tx
}

func gets(t *testing.T, m *txn.Manager, tx int, key, val string, there bool) {
	t.Helper()
	if s, is, why := m.Get(tx, key); s != val || is != there || why != api.OK {
		t.Errorf("Get of %q by %d: %q %t %d, and not %q %t", key, tx, s, is, why, val, there)
	}
}

func scans(t *testing.T, m *txn.Manager, tx int, from, to string, words ...string) {
	t.Helper()
	if l, why := m.Scan(tx, from, to); !slices.Equal(l, pairs(words...)) || why != api.OK {
		t.Errorf("Scan from %q to %q by %d: %v %d, and not %v", from, to, tx, l, why, words)
	}
}

func commits(t *testing.T, m *txn.Manager, tx int, time uint64, writes ...api.Write) {
	t.Helper()
	if l, n, why := m.Commit(tx); !slices.Equal(l, writes) || n != time || why != api.OK {
		t.Errorf("Commit of %d: %v %d %d, and not %v %d", tx, l, n, why, writes, time)
	}
}

func refuses(t *testing.T, m *txn.Manager, tx int, want api.Errno) {
	t.Helper()
	if l, n, why := m.Commit(tx); len(l) != 0 || n != 0 || why != want {
		t.Errorf("Commit of %d: %v %d %d, and not %d", tx, l, n, why, want)
	}
}

func put(key, val string) api.Write { return api.Write{Key: key, Val: val} }

func drop(key string) api.Write { return api.Write{Key: key, Gone: true} }

func is(key string, at uint64, val string) api.Version {
	return api.Version{Key: key, At: at, Val: val}
}

func gone(key string, at uint64) api.Version {
	return api.Version{Key: key, At: at, Gone: true}
}

func has(t *testing.T, m *txn.Manager, low uint64, l ...api.Version) {
	t.Helper()
	if v := m.Versions(); v.Low != low || !slices.Equal(v.List, l) {
		t.Errorf("Versions: %v, and not %v, Low %d", v, l, low)
	}
}

// numbered are n keys, rising.
func numbered(n int) []api.Pair {
	var l []api.Pair
	for i := range n {
		l = append(l, api.Pair{Key: fmt.Sprintf("%05d", i), Val: "v"})
	}
	return l
}

// Promise 10.1: each error of New, in the order in which they are named, and none at the edges.
func TestNew(t *testing.T) {
	long, longer := strings.Repeat("k", api.MaxKey+1), strings.Repeat("v", api.MaxValue+1)
	many := numbered(api.MaxList)
	cases := []struct {
		name string
		l    []api.Pair
		why  api.Errno
	}{
		{"none", nil, api.OK},
		{"an empty list", []api.Pair{}, api.OK},
		{"the empty key", pairs("", "", "\x00", "", "a", ""), api.OK},
		{"by bytes", pairs("z", "1", "\xff", "2"), api.OK},
		{"the longest", pairs(long[1:], longer[1:]), api.OK},
		{"as many as may be", many, api.OK},
		{"one more", numbered(api.MaxList + 1), api.ErrMany},
		{"one more, too long, falling", slices.Concat(pairs("z", longer), many), api.ErrMany},
		{"a key too long", pairs("a", "1", long, "2"), api.ErrLong},
		{"a value too long", pairs("a", longer), api.ErrLong},
		{"falling, and too long behind it", pairs("b", "1", "a", "2", long, "3"), api.ErrLong},
		{"twice, and too long behind it", pairs("b", "1", "b", "2", "c", longer), api.ErrLong},
		{"falling", pairs("b", "1", "a", "2"), api.ErrRange},
		{"falling, and rising again", pairs("b", "1", "a", "2", "c", "3"), api.ErrRange},
		{"twice, and rising again", pairs("a", "1", "a", "2", "c", "3"), api.ErrRange},
		{"falling at last", pairs("a", "1", "c", "1", "b", "2"), api.ErrRange},
		{"falling as bytes", pairs("\xff", "1", "z", "2"), api.ErrRange},
		{"twice", pairs("a", "1", "a", "1"), api.ErrRange},
		{"the empty key twice", pairs("", "1", "", "2"), api.ErrRange},
		{"twice, far from one another", pairs("a", "1", "b", "1", "a", "1"), api.ErrRange},
		{"falling, as many as may be", slices.Concat(many[1:], many[:1]), api.ErrRange},
	}
	for _, c := range cases {
		m, why := txn.New(c.l)
		if why != c.why || (m != nil) != (why == api.OK) {
			t.Error(c.name, ":", m != nil, why, "and not", c.why)
		}
		if why != api.OK {
			continue
		}
		v := m.Versions()
		if m.Now() != 1 || v.Low != 1 || len(v.List) != len(c.l) || len(m.Open()) != 0 {
			t.Error(c.name, ": at", m.Now(), "Low", v.Low, len(v.List), m.Open())
		}
		for i, x := range v.List {
			if x != is(c.l[i].Key, 1, c.l[i].Val) {
				t.Error(c.name, ": has", x)
			}
		}
		tx := begun(t, m)
		if l, why := m.Scan(tx, "", ""); !slices.Equal(l, c.l) || why != api.OK {
			t.Error(c.name, ": scanned", len(l), why)
		}
	}
}

// Promises 10.1, 10.4: numbers rise from 1 on and are never given anew; MaxOpen may be open, not one more; Open tells them.
func TestBeginUpToAsManyAsMayBe(t *testing.T) {
	m := manager(t, "a", "1")
	var want []int
	for i := range api.MaxOpen {
		if tx, why := m.Begin(); tx != i+1 || why != api.OK {
			t.Fatal("Begin:", tx, why)
		}
		want = append(want, i+1)
		if !slices.Equal(m.Open(), want) {
			t.Fatal("Open:", m.Open())
		}
	}
	for range 3 {
		if tx, why := m.Begin(); tx != 0 || why != api.ErrMany {
			t.Fatal("one more:", tx, why)
		}
	}
	must(t, m.Abort(5))
	must(t, m.Abort(1))
	commits(t, m, 16, 1)
	for _, n := range []int{17, 18, 19} {
		if tx, why := m.Begin(); tx != n || why != api.OK {
			t.Error("Begin where there is room again:", tx, why)
		}
	}
	if tx, why := m.Begin(); tx != 0 || why != api.ErrMany {
		t.Error("one more again:", tx, why)
	}
	if want := []int{2, 3, 4, 6, 7, 8, 9, 10, 11, 12, 13, 14, 15, 17, 18, 19}; !slices.Equal(m.Open(), want) {
		t.Error("Open:", m.Open())
	}
	for _, tx := range m.Open() {
		must(t, m.Abort(tx))
	}
	if len(m.Open()) != 0 {
		t.Error("Open, where none is:", m.Open())
	}
	if tx, why := m.Begin(); tx != 20 || why != api.OK {
		t.Error("Begin, where none is open:", tx, why)
	}
}

// Promise 10.2: a number of none, or of one that is over, is ErrUnknown for each call, ahead of all else, and changes nothing.
func TestNumbersOfNone(t *testing.T) {
	m := manager(t, "a", "1")
	over1, over2, over3, still := begun(t, m), begun(t, m), begun(t, m), begun(t, m)
	must(t, m.Put(over1, "b", "2"))
	gets(t, m, over2, "b", "", false)
	commits(t, m, over1, 2, put("b", "2"))
	refuses(t, m, over2, api.ErrConflict)
	must(t, m.Abort(over3))
	must(t, m.Put(still, "c", "3"))
	long := strings.Repeat("x", api.MaxText)
	for _, tx := range []int{over1, over2, over3, 0, -1, still + 1, -still, math.MaxInt, math.MinInt} {
		for _, key := range []string{"", "a", "b", long} {
			if s, is, why := m.Get(tx, key); s != "" || is || why != api.ErrUnknown {
				t.Error("Get by", tx, ":", s, is, why)
			}
			if l, why := m.Scan(tx, key, ""); len(l) != 0 || why != api.ErrUnknown {
				t.Error("Scan by", tx, ":", l, why)
			}
			if why := m.Put(tx, key, long); why != api.ErrUnknown {
				t.Error("Put by", tx, ":", why)
			}
			if why := m.Delete(tx, key); why != api.ErrUnknown {
				t.Error("Delete by", tx, ":", why)
			}
		}
		refuses(t, m, tx, api.ErrUnknown)
		if why := m.Abort(tx); why != api.ErrUnknown {
			t.Error("Abort of", tx, ":", why)
		}
		if l, is, why := m.Peek(tx); len(l) != 0 || is || why != api.ErrUnknown {
			t.Error("Peek at", tx, ":", l, is, why)
		}
	}
	has(t, m, 1, is("a", 1, "1"), is("b", 2, "2"))
	if !slices.Equal(m.Open(), []int{still}) || m.Now() != 2 {
		t.Error("something has changed:", m.Open(), m.Now())
	}
	commits(t, m, still, 3, put("c", "3"))
}

// Promise 10.6: of a nil manager each call answers ErrNil and zero values, whatever it is given.
func TestAManagerThatIsNone(t *testing.T) {
	var m *txn.Manager
	long := strings.Repeat("x", api.MaxText)
	if tx, why := m.Begin(); tx != 0 || why != api.ErrNil {
		t.Error("Begin:", tx, why)
	}
	for _, tx := range []int{0, 1, -1, math.MaxInt} {
		for _, key := range []string{"", "a", long} {
			if s, is, why := m.Get(tx, key); s != "" || is || why != api.ErrNil {
				t.Error("Get:", s, is, why)
			}
			if l, why := m.Scan(tx, key, key); len(l) != 0 || why != api.ErrNil {
				t.Error("Scan:", l, why)
			}
			if why := m.Put(tx, key, key); why != api.ErrNil {
				t.Error("Put:", why)
			}
			if why := m.Delete(tx, key); why != api.ErrNil {
				t.Error("Delete:", why)
			}
		}
		refuses(t, m, tx, api.ErrNil)
		if why := m.Abort(tx); why != api.ErrNil {
			t.Error("Abort:", why)
		}
		if l, is, why := m.Peek(tx); len(l) != 0 || is || why != api.ErrNil {
			t.Error("Peek:", l, is, why)
		}
	}
	if m.Now() != 0 || len(m.Open()) != 0 || m.Versions().Low != 0 || len(m.Versions().List) != 0 {
		t.Error("of none:", m.Now(), m.Open(), m.Versions())
	}
	for kind := range 256 {
		a := m.Do(api.TxStep{Kind: api.TxKind(kind), Tx: 1, Key: "a", To: "b", Val: "1"})
		if a.Why != api.ErrNil || a.Tx != 0 || a.Val != "" || a.Is || len(a.Pairs) != 0 || len(a.Done) != 0 || a.Time != 0 {
			t.Error("Do of", kind, ":", a)
		}
	}
}

// Promise 10.3, 10.4: the versions that are left behind each end of a transaction: those that one that is open can see, and later ones.
func TestVersionsBehindEachEnd(t *testing.T) {
	m := manager(t, "a", "1", "b", "1")
	first := begun(t, m) // at 1
	second := begun(t, m)
	must(t, m.Put(second, "a", "2"))
	commits(t, m, second, 2, put("a", "2"))
	has(t, m, 1, is("a", 1, "1"), is("a", 2, "2"), is("b", 1, "1"))

	third := begun(t, m) // at 2
	fourth := begun(t, m)
	must(t, m.Delete(fourth, "a"))
	must(t, m.Delete(fourth, "c"))
	has(t, m, 1, is("a", 1, "1"), is("a", 2, "2"), is("b", 1, "1"))
	commits(t, m, fourth, 3, drop("a"), drop("c"))
	has(t, m, 1, is("a", 1, "1"), is("a", 2, "2"), gone("a", 3), is("b", 1, "1"), gone("c", 3))

	commits(t, m, first, 3) // third is the first one now
	has(t, m, 2, is("a", 2, "2"), gone("a", 3), is("b", 1, "1"), gone("c", 3))

	fifth := begun(t, m) // at 3
	must(t, m.Abort(third))
	has(t, m, 3, is("b", 1, "1"))

	sixth := begun(t, m)
	gets(t, m, fifth, "b", "1", true)
	must(t, m.Put(sixth, "b", "6"))
	commits(t, m, sixth, 4, put("b", "6"))
	has(t, m, 3, is("b", 1, "1"), is("b", 4, "6"))
	seventh := begun(t, m)
	refuses(t, m, fifth, api.ErrConflict) // over all the same
	has(t, m, 4, is("b", 4, "6"))

	must(t, m.Put(seventh, "b", "7"))
	must(t, m.Put(seventh, "d", ""))
	commits(t, m, seventh, 5, put("b", "7"), put("d", "")) // none is open: up to what is now
	has(t, m, 5, is("b", 5, "7"), is("d", 5, ""))
	eighth := begun(t, m)
	must(t, m.Delete(eighth, "b"))
	commits(t, m, eighth, 6, drop("b"))
	has(t, m, 6, is("d", 5, ""))
}

// Promise 10.4: it is the time at which the first one of those that are open began that counts, not its number nor who ends.
func TestVersionsStayWhileOneSeesThem(t *testing.T) {
	m := manager(t, "k", "1")
	var open []int
	for i := range 8 {
		open = append(open, begun(t, m)) // at i + 1
		w := begun(t, m)
		must(t, m.Put(w, "k", fmt.Sprint(i+2)))
		commits(t, m, w, uint64(i+2), put("k", fmt.Sprint(i+2)))
	}
	if v := m.Versions(); len(v.List) != 9 || v.Low != 1 {
		t.Fatal("Versions:", v)
	}
	lows := []uint64{1, 1, 2, 2, 4, 4, 4, 9}
	for i, at := range []int{3 - 1, 7, 1 - 1, 5 - 1, 2 - 1, 7 - 1, 6 - 1, 4 - 1} {
		for j, tx := range open {
			if tx != 0 {
				gets(t, m, tx, "k", fmt.Sprint(j+1), true)
			}
		}
		must(t, m.Abort(open[at]))
		open[at] = 0
		if v := m.Versions(); v.Low != lows[i] || len(v.List) != int(10-lows[i]) {
			t.Error("behind the end of", at+1, ":", v)
		}
	}
}

// Promises 10.6, 10.4: what is answered shares no memory with what the manager has, nor with another answer.
func TestAnswersAreNewMemory(t *testing.T) {
	given := append(make([]api.Pair, 0, 64), pairs("a", "1", "b", "2")...)
	m, why := txn.New(given)
	must(t, why)
	if !slices.Equal(given, pairs("a", "1", "b", "2")) || slices.ContainsFunc(given[:64][2:], func(p api.Pair) bool { return p != api.Pair{} }) {
		t.Error("what was handed in has changed")
	}
	scribble(given)
	x, y := begun(t, m), begun(t, m)
	scans(t, m, x, "", "", "a", "1", "b", "2")
	l, _ := m.Scan(x, "", "")
	scribble(l)
	scans(t, m, x, "", "", "a", "1", "b", "2")

	must(t, m.Put(x, "c", "3"))
	must(t, m.Delete(x, "b"))
	l, _ = m.Scan(x, "", "")
	again, _ := m.Scan(x, "", "")
	scribble(l)
	if !slices.Equal(again, pairs("a", "1", "c", "3")) {
		t.Error("two scans share memory:", again)
	}
	w, _, _ := m.Peek(x)
	scribble(w)
	if w, is, why := m.Peek(x); !slices.Equal(w, []api.Write{drop("b"), put("c", "3")}) || is || why != api.OK {
		t.Error("Peek:", w, is, why)
	}
	open := m.Open()
	scribble(open)
	if !slices.Equal(m.Open(), []int{x, y}) {
		t.Error("Open:", m.Open())
	}
	scribble(m.Versions().List)
	has(t, m, 1, is("a", 1, "1"), is("b", 1, "2"))
	done, _, why := m.Commit(x)
	must(t, why)
	scribble(done)
	has(t, m, 1, is("a", 1, "1"), is("b", 1, "2"), gone("b", 2), is("c", 2, "3"))
	v := m.Versions()
	must(t, m.Abort(y))
	if !slices.Equal(v.List, []api.Version{is("a", 1, "1"), is("b", 1, "2"), gone("b", 2), is("c", 2, "3")}) {
		t.Error("an answer has changed later:", v)
	}
	has(t, m, 2, is("a", 1, "1"), is("c", 2, "3"))
}

// scribble spoils a list up to its capacity.
func scribble[T any](l []T) {
	var none T
	l = l[:cap(l)]
	for i := range l {
		l[i] = none
	}
}

// Promise P4: two managers have nothing to do with one another.
func TestTwoManagers(t *testing.T) {
	m, n := manager(t, "a", "1"), manager(t, "a", "2")
	x, y := begun(t, m), begun(t, n)
	must(t, m.Put(x, "a", "3"))
	gets(t, n, y, "a", "2", true)
	commits(t, m, x, 2, put("a", "3"))
	gets(t, n, y, "a", "2", true)
	commits(t, n, y, 1)
	if m.Now() != 2 || n.Now() != 1 {
		t.Error("times:", m.Now(), n.Now())
	}
}
