package tree_test

import (
	"bytes"
	"fmt"
	"maps"
	"math"
	"math/rand/v2"
	"slices"
	"strings"
	"testing"

	"lading/api"
	"lading/disk"
	"lading/pager"
)

// Promise 8.3: keys get values, others, and none; what is not there is taken away without harm; each Update is committed with its seq.
func TestUpdate(t *testing.T) {
	d, p, x := formatted(t, 80, 4)
	for i, c := range []struct {
		l    []api.Write
		seq  uint64
		want []string
	}{
		{nil, 1, nil},
		{gone("a"), 1, nil},
		{puts("b", "2", "a", "1"), 5, []string{"a", "1", "b", "2"}},
		{puts("b", "3"), 4, []string{"a", "1", "b", "3"}},
		{nil, 1 << 61, []string{"a", "1", "b", "3"}},
		{[]api.Write{}, 1, []string{"a", "1", "b", "3"}},
		{gone("", "0", "aa", "c"), 2, []string{"a", "1", "b", "3"}},
		{append(gone("a", "x"), puts("c", "", "", "e")...), 3, []string{"", "e", "b", "3", "c", ""}},
		{[]api.Write{{Key: "c", Val: "no matter", Gone: true}}, 3, []string{"", "e", "b", "3"}},
		{puts(strings.Repeat("k", 256), strings.Repeat("v", 512)), 3, []string{"", "e", "b", "3", strings.Repeat("k", 256), strings.Repeat("v", 512)}},
		{gone("", "b", strings.Repeat("k", 256)), 3, nil},
		{gone(""), 3, nil},
		{puts("z", "9"), 3, []string{"z", "9"}},
	} {
		s := p.Super()
		must(t, x.Update(c.l, c.seq))
		var want []api.Pair
		for _, w := range puts(c.want...) {
			want = append(want, api.Pair{Key: w.Key, Val: w.Val})
		}
		wants(t, d, p, x, want)
		if next := p.Super(); next.Gen != s.Gen+1 || next.Seq != c.seq || len(d.Unsynced()) != 0 {
			t.Errorf("Update %d: %+v behind %+v", i, next, s)
		}
		q, y := opened(t, d)
		wants(t, d, q, y, want)
	}
}

// Promise 8.3: all errors, in their order, with nothing changed.
func TestUpdateWrong(t *testing.T) {
	many := make([]api.Write, 4097)
	for i := range many {
		many[i] = api.Write{Key: fmt.Sprint(i), Gone: true}
	}
	long, longest := strings.Repeat("k", 257), strings.Repeat("v", 513)
	full := []string{}
	for i := range 14 {
		full = append(full, fmt.Sprint(i), "")
	}
	wrong := []struct {
		name string
		l    []api.Write
		seq  uint64
		why  api.Errno
	}{
		{"too many writes", many, 1, api.ErrMany},
		{"too many writes, and all else", append(puts(long, longest, long, longest), many...), 0, api.ErrMany},
		{"a key too long", puts("x", "", long, ""), 1, api.ErrLong},
		{"a key too long that is to go", gone(long), 1, api.ErrLong},
		{"a value too long", puts("a", longest), 1, api.ErrLong},
		{"a value too long of a key that is to go", []api.Write{{Key: "a", Val: longest, Gone: true}}, 1, api.ErrLong},
		{"a key twice, and one too long, and a wrong seq", puts("a", "", "a", "", long, ""), 0, api.ErrLong},
		{"a key twice", puts("a", "1", "a", "1"), 1, api.ErrTwice},
		{"a key twice, once to go", append(puts("x", "1", "y", "2"), gone("x")...), 1, api.ErrTwice},
		{"a key twice to go that is not there", gone("q", "r", "q"), 1, api.ErrTwice},
		{"the empty key twice", puts("", "", "", ""), 1, api.ErrTwice},
		{"a key twice with a wrong seq", gone("q", "q"), 0, api.ErrTwice},
		{"a key twice among too many", append(puts(full...), puts("0", "")...), 1, api.ErrTwice},
		{"no seq", nil, 0, api.ErrRange},
		{"a seq too great", nil, 1<<61 + 1, api.ErrRange},
		{"the greatest seq", puts("x", "1"), math.MaxUint64, api.ErrRange},
		{"a wrong seq of too many", puts(full...), 0, api.ErrRange},
		{"too many entries", puts(full...), 1, api.ErrFull},
	}
	d, p, x := formatted(t, 80, 4)
	must(t, x.Update(puts("a", "1", "b", "2"), 9))
	want, s, writes := all(t, x), p.Super(), d.Writes()
	for _, c := range wrong {
		if why := x.Update(c.l, c.seq); why != c.why {
			t.Errorf("Update of %s: error %d, want %d", c.name, why, c.why)
		}
		if p.Super() != s || d.Writes() != writes {
			t.Fatalf("Update of %s: it was written", c.name)
		}
		wants(t, d, p, x, want)
	}
	must(t, d.Cut())
	for _, c := range wrong {
		if why := x.Update(c.l, c.seq); why != c.why {
			t.Errorf("Update of %s without power: error %d, want %d", c.name, why, c.why)
		}
	}
	must(t, d.Restore(nil))
	must(t, x.Update(many[:4096], 1))
	if x.Live() != 2 {
		t.Error("Update of as many writes as may be: Live", x.Live())
	}
	must(t, x.Update(puts(full[:24]...), 1))
	if x.Live() != 14 {
		t.Error("Update up to Cap: Live", x.Live())
	}
}

// Promises 8.3 and 8.7: at Cap one more is refused; others in the place of what is there are not.
func TestFull(t *testing.T) {
	for _, sectors := range []int{35, 80, 200} {
		d, p, x := formatted(t, sectors, 1)
		m := map[string]string{}
		for i := range x.Cap() {
			key := fmt.Sprintf("%0200d", i)
			m[key] = strings.Repeat("v", 512)
			must(t, x.Update(puts(key, m[key]), 1))
			wants(t, d, p, x, pairs(m))
		}
		refused := [][]api.Write{
			puts("x", ""), puts("", "", "x", ""), append(gone("not there"), puts("x", "")...), append(gone(fmt.Sprintf("%0200d", 1)), puts("x", "", "y", "")...),
		}
		for i, l := range refused {
			if why := x.Update(l, 1); why != api.ErrFull {
				t.Errorf("Update %d of a full tree: error %d", i, why)
			}
			wants(t, d, p, x, pairs(m))
		}
		must(t, x.Update(append(puts("x", ""), gone(fmt.Sprintf("%0200d", 1))...), 1))
		delete(m, fmt.Sprintf("%0200d", 1))
		m["x"] = ""
		wants(t, d, p, x, pairs(m))
		must(t, x.Update(append(puts("x", "other"), gone("y")...), 1))
		m["x"] = "other"
		wants(t, d, p, x, pairs(m))
	}
}

// Promise 8.7: trees of entries of any sizes are filled up to Cap and emptied again, by few and by many: never is there no room, and never are there too many pages.
func TestFilledAndEmptied(t *testing.T) {
	for seed := range uint64(30) {
		r := rand.New(rand.NewPCG(seed, 8))
		sectors := []int{35, 36, 80, 120, 300, 1024}[seed%6]
		d, p, x := formatted(t, sectors, 1)
		m := map[string]string{}
		size, most := [][2]int{{8, 8}, {256, 512}, {30, 512}, {256, 0}}[seed%4], 1+r.IntN(x.Cap())
		for len(m) < x.Cap() {
			change := map[string]string{}
			for range 1 + r.IntN(most) {
				change[fullWord(r, size[0])] = fullWord(r, size[1])
			}
			for k := range change {
				if _, is := m[k]; !is && len(m) == x.Cap() {
					delete(change, k)
				} else {
					m[k] = change[k]
				}
			}
			must(t, x.Update(writes(r, change), 1))
			wants(t, d, p, x, pairs(m))
		}
		for len(m) > 0 {
			keys := slices.Sorted(maps.Keys(m))
			r.Shuffle(len(keys), func(i, j int) { keys[i], keys[j] = keys[j], keys[i] })
			keys = keys[:1+r.IntN(min(most, len(keys)))]
			for _, k := range keys {
				delete(m, k)
			}
			must(t, x.Update(gone(keys...), 1))
			wants(t, d, p, x, pairs(m))
		}
		if x.Live() != 0 || x.Pages() > 1 {
			t.Errorf("seed %d: Live %d, Pages %d", seed, x.Live(), x.Pages())
		}
	}
}

// fullWord is often as long as it may be.
func fullWord(r *rand.Rand, most int) string {
	n := most
	if r.IntN(3) == 0 {
		n = r.IntN(most + 1)
	}
	b := make([]byte, n)
	for i := range b {
		b[i] = byte(r.Uint32())
	}
	return string(b)
}

// Promises 8.3, 8.5, 8.7 and 8.8: over long runs a tree has what a map has; refused updates change nothing; it is opened anew now and then.
func TestLongRuns(t *testing.T) {
	for seed := range uint64(24) {
		r := rand.New(rand.NewPCG(seed, 80))
		d, p, x := formatted(t, 40+r.IntN(300), 1+r.IntN(5))
		m := map[string]string{}
		for range 60 {
			if r.IntN(5) == 0 {
				p, x = opened(t, d)
			}
			next, l := changed(r, m, x.Cap())
			want := api.OK
			if len(next) > x.Cap() {
				want, next = api.ErrFull, m
			}
			if why := x.Update(l, 1+r.Uint64N(1<<61)); why != want {
				t.Fatalf("seed %d: Update: error %d, want %d", seed, why, want)
			}
			m = next
			wants(t, d, p, x, pairs(m))
		}
		asks(t, "at the end of a run", r, x, m)
	}
}

// changed are some writes, and what a map is with them.
func changed(r *rand.Rand, m map[string]string, most int) (map[string]string, []api.Write) {
	next, l := maps.Clone(m), []api.Write{}
	keys := slices.Sorted(maps.Keys(m))
	for range r.IntN(1 + r.IntN(most+2)) {
		w := api.Write{Key: fullWord(r, 256>>r.IntN(9)), Val: fullWord(r, 512>>r.IntN(10)), Gone: r.IntN(3) == 0}
		if len(keys) > 0 && r.IntN(2) == 0 {
			w.Key = keys[r.IntN(len(keys))]
		}
		if slices.ContainsFunc(l, func(o api.Write) bool { return o.Key == w.Key }) {
			continue
		}
		l = append(l, w)
		if w.Gone {
			delete(next, w.Key)
		} else {
			next[w.Key] = w.Val
		}
	}
	return next, l
}

// sectorsOf are all that a disk has.
func sectorsOf(t *testing.T, d *disk.Disk) [][]byte {
	t.Helper()
	var l [][]byte
	for i := range d.Sectors() {
		b, why := d.Read(i)
		must(t, why)
		l = append(l, b)
	}
	return l
}

// numbers are those of the pages from one on.
func numbers(t *testing.T, d *disk.Disk, number int) []int {
	t.Helper()
	if number == 0 {
		return nil
	}
	b, _ := d.Read(number)
	l := []int{number}
	for _, kid := range decoded(t, b).Kids {
		l = append(l, numbers(t, d, kid)...)
	}
	return l
}

// Promise 8.6: no page that is in use is written: behind an Update the pages from ahead of it are as they were, and so are the journal and the other superblock.
func TestCopyOnWrite(t *testing.T) {
	r := rand.New(rand.NewPCG(8, 9))
	d, p, x := formatted(t, 400, 6)
	m := map[string]string{}
	for range 60 {
		next, l := changed(r, m, x.Cap()/4)
		if len(next) > x.Cap() {
			continue
		}
		m = next
		was, s := sectorsOf(t, d), p.Super()
		must(t, x.Update(l, 1))
		now := sectorsOf(t, d)
		stays := append(numbers(t, d, s.Root), 2, 3, 4, 5, 6, 7, int(s.Gen%2))
		for _, i := range stays {
			if !bytes.Equal(was[i], now[i]) {
				t.Fatalf("the sector %d is another one", i)
			}
		}
	}
}

// Promise 8.3 with the chapter's ways: pages that hold the same stay where they are.
func TestPagesStay(t *testing.T) {
	r := rand.New(rand.NewPCG(8, 10))
	d, p, x := formatted(t, 1024, 1)
	m := map[string]string{}
	for i := range x.Cap() {
		m[fmt.Sprintf("%0100d", i)] = strings.Repeat("v", 400)
	}
	must(t, x.Update(writes(r, m), 1))
	pages, root := x.Pages(), p.Super().Root
	for _, c := range []struct {
		l    []api.Write
		most int // writes, with the superblock's
	}{
		{nil, 1},
		{puts(fmt.Sprintf("%0100d", 3), m[fmt.Sprintf("%0100d", 3)]), 1},
		{gone("not there"), 1},
		{puts(fmt.Sprintf("%0100d", x.Cap()-1), "other"), 4},
	} {
		writes := d.Writes()
		must(t, x.Update(c.l, 1))
		if n := d.Writes() - writes; n > c.most || x.Pages() != pages || c.most == 1 && p.Super().Root != root {
			t.Errorf("Update of %d entries on %d pages: %d writes, want at most %d", x.Live(), pages, n, c.most)
		}
	}
}

// Promise P2: behind the last Gen the pager refuses, and nothing is changed.
func TestLastGen(t *testing.T) {
	d, p, x := formatted(t, 80, 4)
	must(t, x.Update(puts("a", "1"), 1))
	s := p.Super()
	for _, gen := range []uint64{1<<62 - 2, 1<<62 - 1, 1 << 62} {
		b, why := pager.Bytes(api.Super{Gen: gen, Root: s.Root, Seq: 1, Journal: 4, Live: 1})
		must(t, why)
		must(t, d.Write(int(gen%2), b))
	}
	p, x = opened(t, d)
	if w1, w2 := x.Update(puts("b", "2"), 1), x.Update(gone("a"), 1); w1 != api.ErrRange || w2 != api.ErrRange {
		t.Error("Update behind the last Gen: errors", w1, w2)
	}
	wants(t, d, p, x, []api.Pair{{Key: "a", Val: "1"}})
	if p.Super().Gen != 1<<62 {
		t.Error("Gen:", p.Super().Gen)
	}
}

// Promise P2: pages that others have are not there for a tree; an Update that there are too few pages for changes nothing, and is done when they are given back.
func TestPagesOfOthers(t *testing.T) {
	d, p, x := formatted(t, 80, 4)
	must(t, x.Update(puts("a", "1"), 1))
	var taken []int
	for {
		page, why := p.Alloc()
		if why != api.OK {
			break
		}
		taken = append(taken, page)
	}
	must(t, p.Free(taken[5]))
	l := puts()
	for i := range 13 {
		l = append(l, puts(fmt.Sprint("k", i), strings.Repeat("v", 512))...)
	}
	for range 2 {
		if why := x.Update(l, 1); why != api.ErrFull || p.Used() != p.Pages()-1 || x.Live() != 1 {
			t.Fatal("Update: error", why, "Used", p.Used(), "Live", x.Live())
		}
	}
	for i, page := range taken {
		if i != 5 {
			must(t, p.Free(page))
		}
	}
	must(t, x.Update(l, 1))
	if x.Live() != 14 || p.Used() != x.Pages() {
		t.Error("Live", x.Live(), "Used", p.Used())
	}
	q, y := opened(t, d)
	wants(t, d, q, y, all(t, x))
}
