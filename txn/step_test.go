package txn_test

import (
	"fmt"
	"reflect"
	"slices"
	"strings"
	"testing"

	"lading/api"
	"lading/txn"
)

// Promises 10.2, 10.3: the chapter's example, and what is said beside it.
func TestExample(t *testing.T) {
	m := manager(t, "a", "1")
	x, y := begun(t, m), begun(t, m)
	for _, tx := range []int{x, y} {
		gets(t, m, tx, "a", "1", true)
		must(t, m.Put(tx, "a", "2"))
	}
	commits(t, m, x, 2, put("a", "2"))
	refuses(t, m, y, api.ErrConflict)

	m = manager(t, "a", "1")
	x, y = begun(t, m), begun(t, m)
	must(t, m.Put(x, "a", "2"))
	must(t, m.Put(y, "a", "3"))
	commits(t, m, x, 2, put("a", "2"))
	commits(t, m, y, 3, put("a", "3"))
	gets(t, m, begun(t, m), "a", "3", true)
}

// Promises 10.2, 10.9: a transaction sees what there was when it began, and its own writes, whatever others commit.
func TestWhatIsSeen(t *testing.T) {
	m := manager(t, "a", "1", "b", "2", "c", "3")
	x := begun(t, m)
	other := begun(t, m)
	must(t, m.Put(other, "a", "9"))
	must(t, m.Delete(other, "b"))
	must(t, m.Put(other, "bb", "9"))
	gets(t, m, x, "a", "1", true)
	gets(t, m, x, "bb", "", false)
	commits(t, m, other, 2, put("a", "9"), drop("b"), put("bb", "9"))

	gets(t, m, x, "a", "1", true)
	gets(t, m, x, "b", "2", true)
	gets(t, m, x, "bb", "", false)
	scans(t, m, x, "", "", "a", "1", "b", "2", "c", "3")
	must(t, m.Put(x, "a", ""))
	gets(t, m, x, "a", "", true)
	must(t, m.Delete(x, "c"))
	gets(t, m, x, "c", "", false)
	must(t, m.Put(x, "0", "4"))
	must(t, m.Put(x, "d", "5"))
	must(t, m.Delete(x, "zz"))
	scans(t, m, x, "", "", "0", "4", "a", "", "b", "2", "d", "5")
	must(t, m.Put(x, "c", "6"))
	must(t, m.Delete(x, "a"))
	must(t, m.Delete(x, "0"))
	gets(t, m, x, "c", "6", true)
	gets(t, m, x, "a", "", false)
	gets(t, m, x, "0", "", false)
	scans(t, m, x, "", "", "b", "2", "c", "6", "d", "5")

	y := begun(t, m) // none of x's writes, all of other's
	scans(t, m, y, "", "", "a", "9", "bb", "9", "c", "3")
	must(t, m.Abort(x))
	scans(t, m, y, "", "", "a", "9", "bb", "9", "c", "3")
	scans(t, m, begun(t, m), "", "", "a", "9", "bb", "9", "c", "3")
}

// Promise 10.2: a scan with any bounds has what is seen of the span, own writes within and without it.
func TestScanOfAnySpan(t *testing.T) {
	m := manager(t, "", "0", "a", "1", "ab", "2", "b", "3", "\xff", "4")
	bounds := []string{"", "\x00", "A", "a", "a\x00", "aa", "ab", "abc", "b", "c", "\xff", "\xff\xff", strings.Repeat("a", api.MaxKey+1), strings.Repeat("z", api.MaxText+1)}
	seen := pairs("", "own", "a", "1", "aa", "own", "b", "3", "c", "own", "\xff", "4")
	for _, from := range bounds {
		x := begun(t, m)
		must(t, m.Put(x, "", "own"))
		must(t, m.Delete(x, "ab"))
		must(t, m.Put(x, "aa", "own"))
		must(t, m.Put(x, "c", "own"))
		must(t, m.Delete(x, "d"))
		for _, to := range bounds {
			var want []api.Pair
			for _, p := range seen {
				if p.Key >= from && (to == "" || p.Key < to) {
					want = append(want, p)
				}
			}
			if l, why := m.Scan(x, from, to); !slices.Equal(l, want) || why != api.OK {
				t.Errorf("Scan from %q to %q: %v %d, and not %v", from, to, l, why, want)
			}
		}
		must(t, m.Abort(x))
	}
}

// Promise 10.2: too long keys and values are ErrLong, for each call, at the edge; a refused call changes nothing, and is no read.
func TestTooLong(t *testing.T) {
	m := manager(t)
	x := begun(t, m)
	longest, value := strings.Repeat("k", api.MaxKey), strings.Repeat("v", api.MaxValue)
	for range api.MaxReads + 5 {
		if s, is, why := m.Get(x, longest+"k"); s != "" || is || why != api.ErrLong {
			t.Fatal("Get:", s, is, why)
		}
	}
	for _, w := range [][2]string{{longest + "k", ""}, {"a", value + "v"}, {longest + "k", value + "v"}} {
		if why := m.Put(x, w[0], w[1]); why != api.ErrLong {
			t.Error("Put:", why)
		}
	}
	if why := m.Delete(x, longest+"k"); why != api.ErrLong {
		t.Error("Delete:", why)
	}
	if l, _, why := m.Peek(x); len(l) != 0 || why != api.OK {
		t.Error("Peek behind what was refused:", l, why)
	}
	gets(t, m, x, longest, "", false)
	must(t, m.Put(x, longest, value))
	gets(t, m, x, longest, value, true)
	must(t, m.Delete(x, longest))
	scans(t, m, x, longest+"k", longest+"kk")
	commits(t, m, x, 2, drop(longest))
}

// Promise 10.2: MaxReads reads are answered, of whatever kind, of one key again and again as well; then ErrMany, behind ErrLong; Peek and writes are none.
func TestReadsUpToAsManyAsMayBe(t *testing.T) {
	m := manager(t, "a", "1")
	long := strings.Repeat("k", api.MaxKey+1)
	x, y := begun(t, m), begun(t, m)
	must(t, m.Put(x, "own", "2"))
	for i := range api.MaxReads {
		switch i % 4 {
		case 0:
			gets(t, m, x, "a", "1", true)
		case 1:
			scans(t, m, x, "x", "")
		case 2:
			gets(t, m, x, "own", "2", true)
		case 3:
			gets(t, m, x, "none", "", false)
		}
		if l, is, why := m.Peek(x); len(l) != 1 || is || why != api.OK {
			t.Fatal("Peek:", l, is, why)
		}
		must(t, m.Put(x, "own", "2"))
		if s, is, why := m.Get(x, long); s != "" || is || why != api.ErrLong {
			t.Fatal("Get of what is too long:", s, is, why)
		}
	}
	for range 2 {
		for _, key := range []string{"a", "own", "none"} {
			if s, is, why := m.Get(x, key); s != "" || is || why != api.ErrMany {
				t.Error("one Get more:", s, is, why)
			}
		}
		if l, why := m.Scan(x, "", ""); len(l) != 0 || why != api.ErrMany {
			t.Error("one Scan more:", l, why)
		}
	}
	if s, is, why := m.Get(x, long); s != "" || is || why != api.ErrLong {
		t.Error("Get of what is too long:", s, is, why)
	}
	must(t, m.Put(x, "own", "3"))
	gets(t, m, y, "a", "1", true) // each has reads of its own
	commits(t, m, x, 2, put("own", "3"))
}

// Promise 10.2: a read that was refused does not count for a conflict.
func TestReadsThatAreRefusedDoNotConflict(t *testing.T) {
	m := manager(t, "a", "1")
	x, y := begun(t, m), begun(t, m)
	for range api.MaxReads {
		gets(t, m, x, "none", "", false)
	}
	m.Get(x, "a")
	m.Scan(x, "", "")
	must(t, m.Put(x, "b", "1"))
	must(t, m.Put(y, "a", "2"))
	commits(t, m, y, 2, put("a", "2"))
	if l, is, why := m.Peek(x); len(l) != 1 || is || why != api.OK {
		t.Error("Peek:", l, is, why)
	}
	commits(t, m, x, 3, put("b", "1"))
}

// Promise 10.2: MaxReads keys may be written, each any number of times; one more is ErrMany, behind ErrLong.
func TestWritesUpToAsManyAsMayBe(t *testing.T) {
	m := manager(t)
	x := begun(t, m)
	var want []api.Write
	key := func(i int) string { return fmt.Sprintf("%03d", i) }
	for i := range api.MaxReads {
		if i%3 == 0 {
			must(t, m.Put(x, key(i), "deleted"))
			must(t, m.Delete(x, key(i)))
			want = append(want, drop(key(i)))
		} else {
			must(t, m.Delete(x, key(i)))
			must(t, m.Put(x, key(i), "1"))
			want = append(want, put(key(i), "1"))
		}
	}
	long := strings.Repeat("k", api.MaxKey+1)
	if why := m.Put(x, "more", "1"); why != api.ErrMany {
		t.Error("Put of one more: error", why)
	}
	if why := m.Delete(x, "more"); why != api.ErrMany {
		t.Error("Delete of one more: error", why)
	}
	if m.Put(x, long, "") != api.ErrLong || m.Put(x, "more", strings.Repeat("v", api.MaxValue+1)) != api.ErrLong || m.Delete(x, long) != api.ErrLong {
		t.Error("what is too long is told first")
	}
	must(t, m.Put(x, key(0), "again"))
	must(t, m.Delete(x, key(1)))
	want[0], want[1] = put(key(0), "again"), drop(key(1))
	gets(t, m, x, "more", "", false)
	if l, is, why := m.Peek(x); !slices.Equal(l, want) || is || why != api.OK {
		t.Error("Peek:", l, is, why)
	}
	commits(t, m, x, 2, want...)
	y := begun(t, m) // with nothing written yet
	must(t, m.Put(y, "more", "1"))
	commits(t, m, y, 3, put("more", "1"))
}

// otherCommits has another transaction do writes while one is open.
func otherCommits(t *testing.T, m *txn.Manager, l ...api.Write) {
	t.Helper()
	tx := begun(t, m)
	for _, w := range l {
		if w.Gone {
			must(t, m.Delete(tx, w.Key))
		} else {
			must(t, m.Put(tx, w.Key, w.Val))
		}
	}
	if _, _, why := m.Commit(tx); why != api.OK {
		t.Fatal("Commit of another one: error", why)
	}
}

// reader reads something by a transaction.
type reader func(m *txn.Manager, tx int)

func get(key string) reader {
	return func(m *txn.Manager, tx int) { m.Get(tx, key) }
}

func scan(from, to string) reader {
	return func(m *txn.Manager, tx int) { m.Scan(tx, from, to) }
}

// Promises 10.2, 10.3: a transaction conflicts, if what it has got, or something within what it has scanned, was written since it began, and else not; Peek tells it ahead of Commit.
func TestConflicts(t *testing.T) {
	cases := []struct {
		name  string
		read  []reader
		wrote []api.Write
		is    bool
	}{
		{"nothing read", nil, []api.Write{put("a", "9"), drop("b"), put("c", "9")}, false},
		{"got and put", []reader{get("a")}, []api.Write{put("a", "9")}, true},
		{"got and put as it was", []reader{get("a")}, []api.Write{put("a", "1")}, true},
		{"got and deleted", []reader{get("a")}, []api.Write{drop("a")}, true},
		{"got where nothing was, and put", []reader{get("c")}, []api.Write{put("c", "9")}, true},
		{"got where nothing was, and deleted", []reader{get("c")}, []api.Write{drop("c")}, true},
		{"got another one", []reader{get("a")}, []api.Write{put("b", "9")}, false},
		{"got, a longer one written", []reader{get("a")}, []api.Write{put("a\x00", "9"), put("aa", "9")}, false},
		{"got, a shorter one written", []reader{get("a\x00")}, []api.Write{put("a", "9")}, false},
		{"got the empty one", []reader{get("")}, []api.Write{put("\x00", "9"), put("a", "9")}, false},
		{"got the empty one, and put", []reader{get("")}, []api.Write{put("", "9")}, true},
		{"got the longest", []reader{get(strings.Repeat("\xff", api.MaxKey))}, []api.Write{put(strings.Repeat("\xff", api.MaxKey), "")}, true},
		{"got several, the last written", []reader{get("x"), get("y"), get("z")}, []api.Write{put("z", "9")}, true},
		{"scanned all, put", []reader{scan("", "")}, []api.Write{put("a", "9")}, true},
		{"scanned all, more", []reader{scan("", "")}, []api.Write{put("zz", "9")}, true},
		{"scanned all, the empty one", []reader{scan("", "")}, []api.Write{put("", "9")}, true},
		{"scanned all, less", []reader{scan("", "")}, []api.Write{drop("b")}, true},
		{"scanned all, deleted what was not there", []reader{scan("", "")}, []api.Write{drop("none")}, true},
		{"scanned, at its beginning", []reader{scan("b", "c")}, []api.Write{put("b", "9")}, true},
		{"scanned, within", []reader{scan("b", "c")}, []api.Write{put("bb", "9")}, true},
		{"scanned, at its end", []reader{scan("b", "c")}, []api.Write{put("c", "9")}, false},
		{"scanned, ahead of it", []reader{scan("b", "c")}, []api.Write{put("a", "9"), put("az", "9")}, false},
		{"scanned, just below its end", []reader{scan("b", "c")}, []api.Write{put("b\xff\xff", "9")}, true},
		{"scanned from b on, behind", []reader{scan("b", "")}, []api.Write{put("\xff\xff", "9")}, true},
		{"scanned from b on, ahead", []reader{scan("b", "")}, []api.Write{put("a", "9")}, false},
		{"scanned below b, the empty one", []reader{scan("", "b")}, []api.Write{put("", "9")}, true},
		{"scanned below b, b", []reader{scan("", "b")}, []api.Write{put("b", "9")}, false},
		{"scanned nothing", []reader{scan("b", "b")}, []api.Write{put("b", "9")}, false},
		{"scanned backwards", []reader{scan("c", "a")}, []api.Write{put("b", "9"), put("a", "9"), put("c", "9")}, false},
		{"scanned from a too long one on", []reader{scan("a"+strings.Repeat("z", api.MaxText), "")}, []api.Write{put("b", "9")}, true},
		{"scanned twice, the first written", []reader{scan("a", "b"), scan("x", "y")}, []api.Write{put("a", "9")}, true},
		{"scanned twice, between", []reader{scan("a", "b"), scan("x", "y")}, []api.Write{put("m", "9")}, false},
		{"got and scanned, neither written", []reader{get("a"), scan("x", "y")}, []api.Write{put("b", "9")}, false},
		{"got and scanned, the key written", []reader{scan("x", "y"), get("a")}, []api.Write{put("a", "9")}, true},
	}
	for _, c := range cases {
		for _, writes := range [][]api.Write{nil, {put("mine", "1")}} {
			for _, early := range []bool{false, true} {
				m := manager(t, "a", "1", "b", "2")
				x := begun(t, m)
				for _, w := range writes {
					must(t, m.Put(x, w.Key, w.Val))
				}
				if early {
					otherCommits(t, m, c.wrote...)
				}
				for _, r := range c.read {
					r(m, x)
				}
				if !early {
					if l, is, why := m.Peek(x); !slices.Equal(l, writes) || is || why != api.OK {
						t.Error(c.name, ": Peek ahead of the other one:", l, is, why)
					}
					otherCommits(t, m, c.wrote...)
				}
				for range 2 {
					if l, is, why := m.Peek(x); !slices.Equal(l, writes) || is != c.is || why != api.OK {
						t.Error(c.name, ": Peek:", l, is, why)
					}
				}
				want, time := api.OK, uint64(2+len(writes))
				if c.is {
					want, time = api.ErrConflict, 0
				}
				l, n, why := m.Commit(x)
				if why != want || n != time || c.is && len(l) != 0 || !c.is && !slices.Equal(l, writes) {
					t.Error(c.name, ": Commit:", l, n, why)
				}
				if len(m.Open()) != 0 || m.Now() != max(2, time) || m.Versions().Low != m.Now() {
					t.Error(c.name, ": behind Commit:", m.Open(), m.Now(), m.Versions())
				}
			}
		}
	}
}

// Promise 10.2: what was got or scanned counts also where it had been written by oneself; what was written and not read does not.
func TestReadsOfOwnWritesCount(t *testing.T) {
	reads := map[string]struct {
		read reader
		is   bool
	}{
		"got":             {get("k"), true},
		"scanned":         {scan("a", "z"), true},
		"another got":     {get("j"), false},
		"another scanned": {scan("l", ""), false},
	}
	for name, c := range reads {
		for _, deleted := range []bool{false, true} {
			m := manager(t, "k", "1")
			x := begun(t, m)
			must(t, m.Put(x, "k", "2"))
			if deleted {
				must(t, m.Delete(x, "k"))
			}
			c.read(m, x)
			otherCommits(t, m, put("k", "3"))
			if _, is, why := m.Peek(x); is != c.is || why != api.OK {
				t.Error(name, ": Peek:", is, why)
			}
			if _, _, why := m.Commit(x); (why == api.ErrConflict) != c.is {
				t.Error(name, ": Commit:", why)
			}
		}
	}
}

// Promise 10.3: versions of the time at which a transaction began, or from before, are no conflict; Aborts of others are none.
func TestWhatWasBeforeIsNoConflict(t *testing.T) {
	m := manager(t, "a", "1")
	old := begun(t, m)
	otherCommits(t, m, put("a", "2"))
	x := begun(t, m)
	gets(t, m, x, "a", "2", true)
	scans(t, m, x, "", "", "a", "2")
	other := begun(t, m)
	must(t, m.Put(other, "a", "3"))
	must(t, m.Delete(other, "b"))
	if _, is, _ := m.Peek(x); is {
		t.Error("what is not yet committed conflicts")
	}
	must(t, m.Abort(other))
	must(t, m.Put(x, "a", "4"))
	commits(t, m, x, 3, put("a", "4"))
	gets(t, m, old, "a", "1", true)
	refuses(t, m, old, api.ErrConflict)
}

// Promise 10.3: a commit that has written nothing answers nothing and the time, which stays; each other one the next time; aborts none.
func TestTimes(t *testing.T) {
	m := manager(t)
	x, y, z := begun(t, m), begun(t, m), begun(t, m)
	commits(t, m, x, 1)
	must(t, m.Delete(y, "none"))
	commits(t, m, y, 2, drop("none"))
	commits(t, m, z, 2)
	w := begun(t, m)
	must(t, m.Put(w, "a", "1"))
	must(t, m.Abort(w))
	if m.Now() != 2 {
		t.Error("Now behind an Abort:", m.Now())
	}
	v := begun(t, m)
	must(t, m.Put(v, "a", "1"))
	must(t, m.Put(v, "a", "2"))
	commits(t, m, v, 3, put("a", "2"))
	if m.Now() != 3 {
		t.Error("Now:", m.Now())
	}
	has(t, m, 3, is("a", 3, "2"))
}

// Promise 10.3: a commit by which there would be more than MaxList versions is ErrMany, behind ErrConflict; the transaction is over, nothing of it is there.
func TestCommitUpToAsManyVersionsAsMayBe(t *testing.T) {
	m, why := txn.New(numbered(api.MaxList - 2))
	must(t, why)
	still := begun(t, m)
	gets(t, m, still, "00000", "v", true)
	otherCommits(t, m, put("00000", "1"), put("x", "1")) // now there are as many as may be
	full := m.Versions()
	if len(full.List) != api.MaxList {
		t.Fatal("Versions:", len(full.List))
	}
	for _, w := range []api.Write{put("y", "1"), put("x", "2"), drop("x"), drop("z")} {
		tx := begun(t, m)
		if w.Gone {
			must(t, m.Delete(tx, w.Key))
		} else {
			must(t, m.Put(tx, w.Key, w.Val))
		}
		if l, is, why := m.Peek(tx); !slices.Equal(l, []api.Write{w}) || is || why != api.OK {
			t.Error("Peek:", l, is, why)
		}
		refuses(t, m, tx, api.ErrMany)
		refuses(t, m, tx, api.ErrUnknown)
		if v := m.Versions(); v.Low != 1 || !slices.Equal(v.List, full.List) || m.Now() != 2 || !slices.Equal(m.Open(), []int{still}) {
			t.Error("behind ErrMany:", len(v.List), v.Low, m.Now(), m.Open())
		}
	}
	none := begun(t, m)
	commits(t, m, none, 2)
	must(t, m.Put(still, "y", "1"))
	refuses(t, m, still, api.ErrConflict) // and is over: there is room again
	if v := m.Versions(); v.Low != 2 || len(v.List) != api.MaxList-1 {
		t.Error("behind ErrConflict:", v.Low, len(v.List))
	}
	x := begun(t, m)
	must(t, m.Put(x, "x", "3"))
	commits(t, m, x, 3, put("x", "3"))
	y := begun(t, m)
	must(t, m.Put(y, "y", "1"))
	commits(t, m, y, 4, put("y", "1"))
	z := begun(t, m)
	must(t, m.Put(z, "z", "1"))
	refuses(t, m, z, api.ErrMany)
	if v := m.Versions(); v.Low != 4 || len(v.List) != api.MaxList {
		t.Error("at the end:", v.Low, len(v.List))
	}
}

// Promise 10.8: a transaction that is alone always commits, whatever it reads and writes, and whoever was there before.
func TestAloneAlwaysCommits(t *testing.T) {
	m := manager(t, "a", "1", "b", "2")
	for i := range 60 {
		m.Put(begun(t, m), "a", "lost")
		for _, tx := range m.Open() {
			must(t, m.Abort(tx))
		}
		tx := begun(t, m)
		m.Get(tx, "a")
		m.Scan(tx, "", "")
		must(t, m.Put(tx, "a", fmt.Sprint(i)))
		must(t, m.Delete(tx, fmt.Sprint("k", i-1)))
		must(t, m.Put(tx, fmt.Sprint("k", i), "v"))
		m.Scan(tx, "", "")
		m.Get(tx, "a")
		if _, is, why := m.Peek(tx); is || why != api.OK {
			t.Fatal("Peek:", is, why)
		}
		if _, n, why := m.Commit(tx); n != uint64(i+2) || why != api.OK {
			t.Fatal("Commit:", n, why)
		}
	}
}

// Promise 10.5: Do answers what the call of its kind answers, in the fields of that kind alone; ErrType of what is no kind.
func TestDo(t *testing.T) {
	m, n := manager(t, "a", "1", "b", "2"), manager(t, "a", "1", "b", "2")
	steps := []api.TxStep{
		{Kind: api.TxBegin, Tx: 7, Key: "a", To: "b", Val: "c"},
		{Kind: api.TxBegin},
		{Kind: api.TxGet, Tx: 1, Key: "a", To: "b", Val: "x"},
		{Kind: api.TxGet, Tx: 1, Key: "none"},
		{Kind: api.TxScan, Tx: 1, Key: "a", To: "b", Val: "x"},
		{Kind: api.TxScan, Tx: 1, Key: "b"},
		{Kind: api.TxPut, Tx: 1, Key: "c", To: "d", Val: "3"},
		{Kind: api.TxDelete, Tx: 1, Key: "a", Val: strings.Repeat("x", api.MaxText), To: "b"},
		{Kind: api.TxGet, Tx: 1, Key: "a"},
		{Kind: api.TxScan, Tx: 1},
		{Kind: api.TxGet, Tx: 2, Key: "a"},
		{Kind: api.TxCommit, Tx: 1, Key: "a", To: "b", Val: "c"},
		{Kind: api.TxPut, Tx: 2, Key: "c", Val: "4"},
		{Kind: api.TxCommit, Tx: 2},
		{Kind: api.TxCommit, Tx: 2},
		{Kind: api.TxAbort, Tx: 2},
		{Kind: api.TxBegin},
		{Kind: api.TxCommit, Tx: 3},
		{Kind: api.TxBegin},
		{Kind: api.TxPut, Tx: 4, Key: "c", Val: strings.Repeat("x", api.MaxText)},
		{Kind: api.TxAbort, Tx: 4, Key: "a", To: "b", Val: "c"},
		{Kind: api.TxGet, Tx: 4, Key: "a"},
		{Kind: api.TxScan, Tx: 4},
		{Kind: api.TxDelete, Tx: 4},
		{Kind: api.TxBegin},
	}
	for i, s := range steps {
		if a, want := m.Do(s), called(n, s); !reflect.DeepEqual(plain(a), plain(want)) {
			t.Errorf("step %d: %+v, and not %+v", i, a, want)
		}
	}
	kept := m.Versions()
	for kind := range 256 {
		if kind > int(api.TxNone) && kind < int(api.TxCount) {
			continue
		}
		if a := m.Do(api.TxStep{Kind: api.TxKind(kind), Tx: 5, Key: "a", To: "b", Val: "c"}); !reflect.DeepEqual(plain(a), api.TxAnswer{Why: api.ErrType}) {
			t.Error("Do of", kind, ":", a)
		}
	}
	if !reflect.DeepEqual(m.Versions(), kept) || !slices.Equal(m.Open(), []int{5}) {
		t.Error("what is no kind has changed something")
	}
}

// called is what the call of a step's kind answers.
func called(m *txn.Manager, s api.TxStep) api.TxAnswer {
	var a api.TxAnswer
	switch s.Kind {
	case api.TxBegin:
		a.Tx, a.Why = m.Begin()
	case api.TxGet:
		a.Val, a.Is, a.Why = m.Get(s.Tx, s.Key)
	case api.TxScan:
		a.Pairs, a.Why = m.Scan(s.Tx, s.Key, s.To)
	case api.TxPut:
		a.Why = m.Put(s.Tx, s.Key, s.Val)
	case api.TxDelete:
		a.Why = m.Delete(s.Tx, s.Key)
	case api.TxCommit:
		a.Done, a.Time, a.Why = m.Commit(s.Tx)
	case api.TxAbort:
		a.Why = m.Abort(s.Tx)
	}
	return a
}

// plain is an answer whose empty lists are nil.
func plain(a api.TxAnswer) api.TxAnswer {
	if len(a.Pairs) == 0 {
		a.Pairs = nil
	}
	if len(a.Done) == 0 {
		a.Done = nil
	}
	return a
}
