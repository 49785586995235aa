package pager_test

import (
	"bytes"
	"math"
	"testing"

	"lading/api"
	"lading/disk"
	"lading/pager"
)

// Promises 7.2 to 7.5: the chapter's example.
func TestExample(t *testing.T) {
	d, p := formatted(t, 40, 4)
	if page, why := p.Alloc(); page != 6 || why != api.OK {
		t.Error("Alloc:", page, why)
	}
	must(t, p.Commit(6, 1, 0))
	want := api.Super{Gen: 2, Root: 6, Seq: 1, Journal: 4}
	if p.Super() != want || !bytes.Equal(read(t, d, 0), rawOf(want)) {
		t.Error("Commit:", p.Super())
	}
	if s, why := pager.Read(read(t, d, 1)); s.Gen != 1 || why != api.OK {
		t.Error("the superblock ahead of it:", s, why)
	}
}

// The pages that inEachState has in each state.
const (
	freePage = 6 + iota
	freshPage
	keptPage
	leavingPage
)

// inEachState is a pager with a page in each of the states, the others being free.
func inEachState(t *testing.T) (*disk.Disk, *pager.Pager) {
	t.Helper()
	d, p := formatted(t, 40, 4)
	for want := freePage; want <= leavingPage; want++ {
		page, why := p.Alloc()
		if page != want || why != api.OK {
			t.Fatal("Alloc:", page, why)
		}
		must(t, p.Write(page, []byte{byte(page)}))
	}
	must(t, p.Free(freePage))
	must(t, p.Free(freshPage))
	must(t, p.Commit(0, 1, 0))
	for _, want := range []int{freePage, freshPage} {
		if page, why := p.Alloc(); page != want || why != api.OK {
			t.Fatal("Alloc:", page, why)
		}
	}
	must(t, p.Free(freePage))
	must(t, p.Free(leavingPage))
	if p.Used() != 3 {
		t.Fatal("Used:", p.Used())
	}
	return d, p
}

// stateOf finds out how a page is, and changes that.
func stateOf(p *pager.Pager, page int) string {
	if _, why := p.Page(page); why == api.ErrState {
		return "free"
	}
	if p.Write(page, nil) == api.OK {
		return "fresh"
	}
	if p.Free(page) == api.OK {
		return "kept"
	}
	return "leaving"
}

// Promises 7.3 to 7.5 and P2: a page in each of the states is given to each call: what is answered, and how the page is then.
func TestEachState(t *testing.T) {
	pages := []int{freePage, freshPage, keptPage, leavingPage}
	calls := []struct {
		name string
		do   func(p *pager.Pager, page int) api.Errno
		why  [4]api.Errno
		then [4]string
	}{
		{"nothing", func(p *pager.Pager, page int) api.Errno { return api.OK },
			[4]api.Errno{}, [4]string{"free", "fresh", "kept", "leaving"}},
		{"Keep", func(p *pager.Pager, page int) api.Errno { return p.Keep([]int{page}) },
			[4]api.Errno{api.OK, api.ErrTwice, api.ErrTwice, api.ErrTwice}, [4]string{"kept", "fresh", "kept", "leaving"}},
		{"Keep behind a free one", func(p *pager.Pager, page int) api.Errno { return p.Keep([]int{20, page}) },
			[4]api.Errno{api.OK, api.ErrTwice, api.ErrTwice, api.ErrTwice}, [4]string{"kept", "fresh", "kept", "leaving"}},
		{"Free", func(p *pager.Pager, page int) api.Errno { return p.Free(page) },
			[4]api.Errno{api.ErrState, api.OK, api.OK, api.ErrState}, [4]string{"free", "free", "leaving", "leaving"}},
		{"Page", func(p *pager.Pager, page int) api.Errno { _, why := p.Page(page); return why },
			[4]api.Errno{api.ErrState, api.OK, api.OK, api.OK}, [4]string{"free", "fresh", "kept", "leaving"}},
		{"Write", func(p *pager.Pager, page int) api.Errno { return p.Write(page, []byte("x")) },
			[4]api.Errno{api.ErrState, api.OK, api.ErrState, api.ErrState}, [4]string{"free", "fresh", "kept", "leaving"}},
		{"Commit", func(p *pager.Pager, page int) api.Errno { return p.Commit(page, 1, 0) },
			[4]api.Errno{api.ErrState, api.OK, api.OK, api.ErrState}, [4]string{"free", "kept", "kept", "leaving"}},
		{"Commit of nothing", func(p *pager.Pager, page int) api.Errno { return p.Commit(0, 1, 0) },
			[4]api.Errno{}, [4]string{"free", "kept", "kept", "free"}},
	}
	for _, c := range calls {
		for i, page := range pages {
			d, p := inEachState(t)
			writes, s := d.Writes(), p.Super()
			why := c.do(p, page)
			if why != c.why[i] {
				t.Errorf("%s of the page %d: error %d, want %d", c.name, page, why, c.why[i])
			}
			if why != api.OK && (d.Writes() != writes || p.Super() != s || p.Used() != 3 || stateOf(p, 20) != "free") {
				t.Errorf("%s of the page %d: refused, but something is changed", c.name, page)
			}
			if is := stateOf(p, page); is != c.then[i] {
				t.Errorf("%s of the page %d: it is %s, want %s", c.name, page, is, c.then[i])
			}
		}
	}
}

// Promise 7.3: Alloc gives the least page that is free; one that is leaving is not.
func TestAlloc(t *testing.T) {
	_, p := inEachState(t)
	for _, want := range []int{freePage, 10, 11} {
		if page, why := p.Alloc(); page != want || why != api.OK {
			t.Error("Alloc:", page, why, "want", want)
		}
	}
	must(t, p.Commit(0, 1, 0))
	if page, why := p.Alloc(); page != leavingPage || why != api.OK {
		t.Error("Alloc behind a commit:", page, why)
	}
	must(t, p.Free(freePage))
	if page, why := p.Alloc(); page != 12 || why != api.OK {
		t.Error("Alloc while a page is leaving:", page, why)
	}
}

// Promises 7.3, 7.6 and 7.9: all pages are given out, each once, none of them a superblock or the journal's; then ErrFull.
func TestAllocAll(t *testing.T) {
	for _, c := range [][2]int{{35, 1}, {40, 4}, {1024, 1}, {1024, 990}} {
		_, p := formatted(t, c[0], c[1])
		for want := 2 + c[1]; want < c[0]; want++ {
			if page, why := p.Alloc(); page != want || why != api.OK {
				t.Fatal("Alloc:", page, why, "want", want)
			}
		}
		if page, why := p.Alloc(); page != 0 || why != api.ErrFull || p.Used() != p.Pages() {
			t.Error("Alloc of a page more:", page, why, p.Used())
		}
		must(t, p.Commit(c[0]-1, 1, 0))
		must(t, p.Free(c[0]-1))
		if page, why := p.Alloc(); page != 0 || why != api.ErrFull {
			t.Error("Alloc while the only page given back is leaving:", page, why)
		}
		must(t, p.Commit(0, 1, 0))
		if page, why := p.Alloc(); page != c[0]-1 || why != api.OK {
			t.Error("Alloc of a page that was given back:", page, why)
		}
	}
}

// Promises 7.3 and P3: Keep's errors in their order; a list of which one is wrong keeps none.
func TestKeep(t *testing.T) {
	for _, c := range []struct {
		pages []int
		why   api.Errno
		used  int
	}{
		{nil, api.OK, 0}, {[]int{}, api.OK, 0}, {[]int{6}, api.OK, 1}, {[]int{39, 6, 20}, api.OK, 3},
		{[]int{5}, api.ErrRange, 0}, {[]int{40}, api.ErrRange, 0}, {[]int{0}, api.ErrRange, 0}, {[]int{-1}, api.ErrRange, 0},
		{[]int{math.MaxInt}, api.ErrRange, 0}, {[]int{math.MinInt}, api.ErrRange, 0}, {[]int{6, 7, 40}, api.ErrRange, 0},
		{[]int{6, 6}, api.ErrTwice, 0}, {[]int{6, 7, 6}, api.ErrTwice, 0}, {[]int{6, 6, 5}, api.ErrRange, 0},
		{[]int{5, 6, 6}, api.ErrRange, 0},
	} {
		_, p := formatted(t, 40, 4)
		if why := p.Keep(c.pages); why != c.why || p.Used() != c.used {
			t.Errorf("Keep(%v): error %d, want %d; used %d, want %d", c.pages, why, c.why, p.Used(), c.used)
		}
	}
	_, p := formatted(t, 40, 4)
	l := []int{8, 6}
	must(t, p.Keep(l))
	l[0] = 20
	if w1, w2, w3 := p.Keep([]int{6}), p.Keep([]int{9, 8}), p.Keep([]int{7, 9}); w1 != api.ErrTwice || w2 != api.ErrTwice || w3 != api.OK {
		t.Error("Keep of pages that are kept:", w1, w2, w3)
	}
	if page, why := p.Alloc(); page != 10 || why != api.OK {
		t.Error("Alloc beside pages that are kept:", page, why)
	}
}

// Promises 7.3 to 7.5, P1 and P3: numbers that are no page's, in each call.
func TestNoPage(t *testing.T) {
	d, p := formatted(t, 40, 4)
	for _, page := range []int{math.MinInt, -1, 0, 1, 2, 5, 40, 41, 1023, 1024, math.MaxInt} {
		if why := p.Free(page); why != api.ErrRange {
			t.Errorf("Free(%d): error %d", page, why)
		}
		if b, why := p.Page(page); b != nil || why != api.ErrRange {
			t.Errorf("Page(%d): error %d", page, why)
		}
		if why := p.Write(page, make([]byte, 4097)); why != api.ErrRange {
			t.Errorf("Write(%d): error %d", page, why)
		}
		want := api.ErrState
		if page < 0 || page > 1024 {
			want = api.ErrRange
		}
		if page == 0 {
			continue
		}
		if why := p.Commit(page, 1, 0); why != want {
			t.Errorf("Commit(%d): error %d, want %d", page, why, want)
		}
	}
	if p.Used() != 0 || p.Super().Gen != 1 || d.Writes() != 2 {
		t.Error("refused calls changed something")
	}
	must(t, d.Cut())
	if _, why := p.Page(5); why != api.ErrRange {
		t.Error("Page of none without power: error", why)
	}
	if _, why := p.Page(6); why != api.ErrState {
		t.Error("Page of a free one without power: error", why)
	}
	if w1, w2 := p.Write(40, nil), p.Write(6, nil); w1 != api.ErrRange || w2 != api.ErrState {
		t.Error("Write without power: errors", w1, w2)
	}
}

// Promise 7.4: a page is what was written to it, and noughts behind; what is too long is not written.
func TestWrite(t *testing.T) {
	_, p := formatted(t, 40, 4)
	page, _ := p.Alloc()
	for _, n := range []int{4096, 0, 1, 4095} {
		data := bytes.Repeat([]byte{'x'}, n)
		must(t, p.Write(page, data))
		want := append(bytes.Clone(data), make([]byte, 4096-n)...)
		if b, why := p.Page(page); !bytes.Equal(b, want) || why != api.OK {
			t.Errorf("Page behind a Write of %d bytes: error %d, or other bytes", n, why)
		}
	}
	must(t, p.Write(page, []byte("kept")))
	if why := p.Write(page, make([]byte, 4097)); why != api.ErrLong {
		t.Error("Write of too many bytes: error", why)
	}
	if b, _ := p.Page(page); !bytes.HasPrefix(b, []byte("kept")) {
		t.Error("Write of too many bytes: it was written")
	}
	must(t, p.Write(page, []byte("still")))
}

// Promises 7.5 and P3: Commit's errors in their order, with nothing changed.
func TestCommitWrong(t *testing.T) {
	for _, c := range []struct {
		root int
		seq  uint64
		live int
		why  api.Errno
	}{
		{0, 0, 0, api.ErrRange}, {0, 1<<61 + 1, 0, api.ErrRange}, {0, math.MaxUint64, 0, api.ErrRange},
		{0, 1, -1, api.ErrRange}, {0, 1, 1025, api.ErrRange}, {0, 1, math.MaxInt, api.ErrRange}, {0, 1, math.MinInt, api.ErrRange},
		{-1, 1, 0, api.ErrRange}, {1025, 1, 0, api.ErrRange}, {math.MaxInt, 1, 0, api.ErrRange}, {math.MinInt, 1, 0, api.ErrRange},
		{freePage, 0, 0, api.ErrRange}, {freePage, 1, 1025, api.ErrRange}, {freshPage, 0, 0, api.ErrRange},
		{freePage, 1, 0, api.ErrState}, {leavingPage, 1, 0, api.ErrState}, {5, 1, 0, api.ErrState}, {1, 1, 0, api.ErrState},
		{40, 1, 0, api.ErrState}, {1024, 1, 0, api.ErrState},
	} {
		d, p := inEachState(t)
		must(t, p.Write(freshPage, []byte("unsynced")))
		s, writes := p.Super(), d.Writes()
		if why := p.Commit(c.root, c.seq, c.live); why != c.why {
			t.Errorf("Commit(%d, %d, %d): error %d, want %d", c.root, c.seq, c.live, why, c.why)
		}
		if p.Super() != s || d.Writes() != writes || len(d.Unsynced()) != 1 || p.Used() != 3 || stateOf(p, freshPage) != "fresh" || stateOf(p, leavingPage) != "leaving" {
			t.Errorf("Commit(%d, %d, %d): something is changed", c.root, c.seq, c.live)
		}
		must(t, d.Cut())
		if why := p.Commit(c.root, c.seq, c.live); why != c.why {
			t.Errorf("Commit(%d, %d, %d) without power: error %d, want %d", c.root, c.seq, c.live, why, c.why)
		}
	}
}

// Promise 7.5: the greatest numbers of a commit; sequences may go back; behind the last Gen there is none.
func TestCommitEdges(t *testing.T) {
	d, p := formatted(t, 40, 4)
	must(t, p.Commit(0, 1<<61, 1024))
	must(t, p.Commit(0, 1, 0))
	must(t, d.Write(0, raw(2, 1, 0, 4, 0)))
	must(t, d.Write(1, raw(1<<62-1, 1, 0, 4, 0)))
	p = opened(t, d)
	must(t, p.Commit(0, 5, 6))
	last := api.Super{Gen: 1 << 62, Seq: 5, Journal: 4, Live: 6}
	if p.Super() != last || !bytes.Equal(read(t, d, 0), rawOf(last)) {
		t.Error("Commit of the last Gen:", p.Super())
	}
	if w1, w2 := p.Commit(0, 5, 6), p.Commit(6, 5, 6); w1 != api.ErrRange || w2 != api.ErrRange {
		t.Error("Commit behind the last Gen: errors", w1, w2)
	}
	if p := opened(t, d); p.Super() != last {
		t.Error("Open behind the last Gen:", p.Super())
	}
}

// Promise 7.5: superblocks are written in turn, each once, and all is synced.
func TestCommitsInTurn(t *testing.T) {
	d, p := formatted(t, 40, 4)
	for gen := uint64(2); gen < 20; gen++ {
		page, _ := p.Alloc()
		must(t, p.Write(page, []byte{byte(gen)}))
		other := read(t, d, int(gen+1)%2)
		writes := d.Writes()
		must(t, p.Commit(page, gen*10, int(gen)))
		want := api.Super{Gen: gen, Root: page, Seq: gen * 10, Journal: 4, Live: int(gen)}
		if p.Super() != want || !bytes.Equal(read(t, d, int(gen)%2), rawOf(want)) || !bytes.Equal(read(t, d, int(gen+1)%2), other) {
			t.Fatal("Commit of", gen, "is", p.Super())
		}
		if d.Writes() != writes+1 || len(d.Unsynced()) != 0 {
			t.Fatal("Commit of", gen, "has", d.Writes()-writes, "writes; unsynced:", d.Unsynced())
		}
		if q := opened(t, d); q.Super() != want || q.Used() != 0 {
			t.Fatal("Open behind", gen, "is", q.Super(), q.Used())
		}
	}
}

// Promise 7.7: answers are new memory; what is handed in is neither changed nor kept.
func TestMemory(t *testing.T) {
	_, p := formatted(t, 40, 4)
	page, _ := p.Alloc()
	data := append(make([]byte, 0, 100), "data"...)
	must(t, p.Write(page, data))
	if !bytes.Equal(data[:100], append([]byte("data"), make([]byte, 96)...)) {
		t.Error("Write: what was handed in was changed")
	}
	copy(data, "!!!!")
	a, _ := p.Page(page)
	for i := range a[:cap(a)] {
		a[:cap(a)][i] = '?'
	}
	if b, _ := p.Page(page); !bytes.Equal(b, append([]byte("data"), make([]byte, 4092)...)) {
		t.Error("Write or Page: memory is shared")
	}
}

// Promises 7.7 and P1: a pager that is none.
func TestNil(t *testing.T) {
	var p *pager.Pager
	if p.Super() != (api.Super{}) || p.Pages() != 0 || p.Used() != 0 {
		t.Error("of a nil pager:", p.Super(), p.Pages(), p.Used())
	}
	page, why := p.Alloc()
	b, why2 := p.Page(6)
	if page != 0 || b != nil {
		t.Error("of a nil pager:", page, b)
	}
	for i, why := range []api.Errno{why, why2, p.Keep(nil), p.Free(6), p.Write(6, nil), p.Commit(0, 1, 0)} {
		if why != api.ErrNil {
			t.Errorf("call %d of a nil pager: error %d", i, why)
		}
	}
}
