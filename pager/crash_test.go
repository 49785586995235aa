package pager_test

import (
	"bytes"
	"math/rand/v2"
	"slices"
	"testing"

	"lading/api"
	"lading/disk"
	"lading/pager"
)

// allFates are all that a sector may have.
func allFates() []api.Fate {
	l := []api.Fate{{Kind: api.FateLose}, {Kind: api.FateKeep}}
	for mask := range 256 {
		l = append(l, api.Fate{Kind: api.FateTear, Mask: uint8(mask)})
	}
	return l
}

// isDone tells whether a pager is of no use any more, whatever it is asked.
func isDone(t *testing.T, p *pager.Pager) {
	t.Helper()
	page, w1 := p.Alloc()
	b, w2 := p.Page(6)
	if page != 0 || b != nil {
		t.Error("beside an error:", page, len(b))
	}
	whys := []api.Errno{
		w1, w2, p.Keep(nil), p.Keep([]int{6, 6}), p.Keep([]int{-1}), p.Free(6), p.Free(-1), p.Free(20),
		p.Write(6, nil), p.Write(-1, nil), p.Write(6, make([]byte, 5000)), p.Commit(0, 1, 0), p.Commit(-1, 0, -1),
	}
	for i, why := range whys {
		if why != api.ErrState {
			t.Errorf("call %d of a pager behind an ErrDown: error %d, want %d", i, why, api.ErrState)
		}
	}
	if _, why := p.Page(-1); why != api.ErrState {
		t.Error("Page of none behind an ErrDown: error", why)
	}
}

// Promise 7.6: once Write or Commit has answered ErrDown nothing goes on, with power again neither; how things stood is still answered.
func TestBehindDown(t *testing.T) {
	for name, fail := range map[string]func(*disk.Disk, *pager.Pager) api.Errno{
		"Write at which the power goes":      func(d *disk.Disk, p *pager.Pager) api.Errno { d.Arm(0); return p.Write(6, nil) },
		"Write without power":                func(d *disk.Disk, p *pager.Pager) api.Errno { d.Cut(); return p.Write(6, nil) },
		"Write of too much without power":    func(d *disk.Disk, p *pager.Pager) api.Errno { d.Cut(); return p.Write(6, make([]byte, 5000)) },
		"Commit at which the power goes":     func(d *disk.Disk, p *pager.Pager) api.Errno { d.Arm(0); return p.Commit(6, 2, 1) },
		"Commit without power":               func(d *disk.Disk, p *pager.Pager) api.Errno { d.Cut(); return p.Commit(6, 2, 1) },
		"Commit of nothing without power":    func(d *disk.Disk, p *pager.Pager) api.Errno { d.Cut(); return p.Commit(0, 2, 1) },
		"Commit at which the power goes now": func(d *disk.Disk, p *pager.Pager) api.Errno { d.Arm(1); p.Write(6, nil); return p.Commit(6, 2, 1) },
	} {
		d, p := formatted(t, 40, 4)
		must(t, p.Keep([]int{10}))
		p.Alloc()
		s := p.Super()
		if why := fail(d, p); why != api.ErrDown {
			t.Errorf("%s: error %d", name, why)
		}
		isDone(t, p)
		must(t, d.Restore(nil))
		isDone(t, p)
		if p.Super() != s || p.Pages() != 34 || p.Used() != 2 {
			t.Errorf("%s: %+v, %d pages, %d used", name, p.Super(), p.Pages(), p.Used())
		}
		q := opened(t, d)
		if page, why := q.Alloc(); page != 6 || why != api.OK || q.Super() != s {
			t.Errorf("%s: opened anew %+v, Alloc %d, error %d", name, q.Super(), page, why)
		}
	}
}

// Promises 7.4 and 7.6: Page without power is refused, but the pager goes on when there is power again.
func TestPageDown(t *testing.T) {
	d, p := formatted(t, 40, 4)
	page, _ := p.Alloc()
	must(t, p.Write(page, []byte("data")))
	must(t, p.Commit(page, 1, 0))
	must(t, d.Cut())
	if b, why := p.Page(page); b != nil || why != api.ErrDown {
		t.Error("Page without power: error", why)
	}
	if next, why := p.Alloc(); next != page+1 || why != api.OK {
		t.Error("Alloc without power:", next, why)
	}
	must(t, p.Keep([]int{30}))
	must(t, p.Free(30))
	must(t, d.Restore(nil))
	if b, why := p.Page(page); !bytes.HasPrefix(b, []byte("data")) || why != api.OK {
		t.Error("Page with power again: error", why)
	}
	must(t, p.Write(page+1, []byte("more")))
	must(t, p.Commit(page+1, 1, 0))
}

// Promise 7.8: the power goes at each write from the first page's to the superblock's, with each of the fates: Open finds the superblock ahead of it, and its page.
func TestCutWithinCommit(t *testing.T) {
	for count := range 4 {
		for _, f := range allFates() {
			d, p := formatted(t, 40, 4)
			root, _ := p.Alloc()
			must(t, p.Write(root, []byte("root")))
			must(t, p.Commit(root, 2, 1))
			s := p.Super()
			must(t, p.Free(root))
			must(t, d.Arm(count))
			why := api.OK
			for range 3 {
				next, _ := p.Alloc()
				if why == api.OK {
					why = p.Write(next, bytes.Repeat([]byte{'x'}, 4096))
				}
			}
			if why == api.OK {
				why = p.Commit(root+1, 3, 2)
			}
			if why != api.ErrDown {
				t.Fatal("power for", count, "writes: error", why)
			}
			must(t, d.Restore([]api.Fate{f, f, f, f}))
			q := opened(t, d)
			must(t, q.Keep([]int{root}))
			if b, why := q.Page(root); q.Super() != s || !bytes.HasPrefix(b, []byte("root")) || why != api.OK {
				t.Fatalf("behind %d writes with the fate %+v: %+v, error %d", count, f, q.Super(), why)
			}
		}
	}
}

// Promise 7.8: a superblock that was written, and not synced, has each of the fates: it counts as a whole, or the one ahead of it does, for a first commit and for later ones.
func TestFatesOfASuperblock(t *testing.T) {
	for commits := range 4 {
		for _, f := range allFates() {
			d, p := formatted(t, 40, 4)
			for i := range commits {
				root, _ := p.Alloc()
				must(t, p.Commit(root, uint64(i+5), i))
			}
			old := p.Super()
			next := api.Super{Gen: old.Gen + 1, Root: 39, Seq: 1 << 61, Journal: 4, Live: 1024}
			must(t, d.Write(int(next.Gen%2), rawOf(next)))
			must(t, d.Cut())
			must(t, d.Restore([]api.Fate{f}))
			want := old
			if f.Kind == api.FateKeep || f.Kind == api.FateTear && f.Mask&0x81 == 0x81 {
				want = next // what is between the numbers and the checksum is noughts in each superblock
			}
			if s := opened(t, d).Super(); s != want {
				t.Fatalf("behind %d commits with the fate %+v: %+v, want %+v", commits, f, s, want)
			}
		}
	}
}

// model is a pager without a disk: how each page is, and what was written to it.
type model struct {
	first  int
	states []string
	data   map[int]string
	super  api.Super
}

func (m *model) state(page int) string {
	if page < m.first || page >= m.first+len(m.states) {
		return "none"
	}
	return m.states[page-m.first]
}

// refused is an error where a page is in none of these states.
func (m *model) refused(page int, states ...string) api.Errno {
	if m.state(page) == "none" {
		return api.ErrRange
	}
	if !slices.Contains(states, m.state(page)) {
		return api.ErrState
	}
	return api.OK
}

func (m *model) used() int {
	n := 0
	for _, s := range m.states {
		if s != "free" {
			n++
		}
	}
	return n
}

func (m *model) commit() {
	for i, s := range m.states {
		m.states[i] = map[string]string{"free": "free", "fresh": "kept", "kept": "kept", "leaving": "free"}[s]
	}
}

// step does something with a pager, and tells whether it is what the model does.
func (m *model) step(t *testing.T, r *rand.Rand, p *pager.Pager) {
	t.Helper()
	page := m.first - 1 + r.IntN(len(m.states)+2)
	switch r.IntN(8) {
	case 0, 1, 2:
		at, want := slices.Index(m.states, "free"), api.OK
		if at < 0 {
			at, want = -m.first, api.ErrFull
		} else {
			m.states[at] = "fresh"
		}
		if got, why := p.Alloc(); got != m.first+at || why != want {
			t.Fatalf("Alloc = %d, error %d, want %d, error %d", got, why, m.first+at, want)
		}
	case 3:
		want := m.refused(page, "fresh", "kept")
		if want == api.OK {
			m.states[page-m.first] = map[string]string{"fresh": "free", "kept": "leaving"}[m.state(page)]
		}
		if why := p.Free(page); why != want {
			t.Fatalf("Free(%d): error %d, want %d", page, why, want)
		}
	case 4, 5:
		want, data := m.refused(page, "fresh"), string(rune('a'+r.IntN(26)))
		if want == api.OK {
			m.data[page] = data
		}
		if why := p.Write(page, []byte(data)); why != want {
			t.Fatalf("Write(%d): error %d, want %d", page, why, want)
		}
	case 6:
		want := m.refused(page, "free")
		if want == api.ErrState {
			want = api.ErrTwice
		}
		if want == api.OK {
			m.states[page-m.first] = "kept"
		}
		if why := p.Keep([]int{page}); why != want {
			t.Fatalf("Keep(%d): error %d, want %d", page, why, want)
		}
	case 7:
		m.stepCommit(t, r, p, page)
	}
}

func (m *model) stepCommit(t *testing.T, r *rand.Rand, p *pager.Pager, page int) {
	t.Helper()
	seq, live := 1+r.Uint64N(100), r.IntN(100)
	want := api.OK
	if s := m.state(page); s != "fresh" && s != "kept" {
		want = api.ErrState
	} else {
		m.commit()
		m.super = api.Super{Gen: m.super.Gen + 1, Root: page, Seq: seq, Journal: m.super.Journal, Live: live}
	}
	if why := p.Commit(page, seq, live); why != want {
		t.Fatalf("Commit(%d): error %d, want %d", page, why, want)
	}
}

// is holds a pager against the model.
func (m *model) is(t *testing.T, d *disk.Disk, p *pager.Pager) {
	t.Helper()
	if p.Super() != m.super || p.Pages() != len(m.states) || p.Used() != m.used() {
		t.Fatalf("%+v, %d pages, %d used, want %+v, %d, %d", p.Super(), p.Pages(), p.Used(), m.super, len(m.states), m.used())
	}
	for i, s := range m.states {
		page := m.first + i
		b, why := p.Page(page)
		if s == "free" {
			if b != nil || why != api.ErrState {
				t.Fatalf("Page(%d) of a free one: error %d", page, why)
			}
		} else if string(bytes.TrimRight(b, "\x00")) != m.data[page] || len(b) != 4096 || why != api.OK {
			t.Fatalf("Page(%d) has other bytes, or the error %d", page, why)
		}
	}
	if s := opened(t, d).Super(); s != m.super {
		t.Fatalf("opened anew: %+v, want %+v", s, m.super)
	}
}

// Promises 7.2 to 7.6, 7.8 and 7.9: over long runs a pager is what its model is; what was kept ahead of a power cut stands behind it.
func TestLongRuns(t *testing.T) {
	for seed := range uint64(40) {
		r := rand.New(rand.NewPCG(seed, 7))
		journal := 1 + r.IntN(6)
		d, p := formatted(t, 34+journal+r.IntN(4), journal)
		m := &model{first: 2 + journal, states: make([]string, p.Pages()), data: map[int]string{}, super: p.Super()}
		for i := range m.states {
			m.states[i] = "free"
		}
		for range 150 {
			m.step(t, r, p)
			m.is(t, d, p)
		}
		p = m.crash(t, r, d, p)
		for range 50 {
			m.step(t, r, p)
			m.is(t, d, p)
		}
	}
}

// crash has the power go within a commit, and answers the pager that is opened then, with the pages kept that were.
func (m *model) crash(t *testing.T, r *rand.Rand, d *disk.Disk, p *pager.Pager) *pager.Pager {
	t.Helper()
	var kept []int
	for i, s := range m.states {
		m.states[i] = "free"
		if s == "kept" || s == "leaving" {
			m.states[i] = "kept"
			kept = append(kept, m.first+i)
		}
	}
	must(t, d.Arm(0))
	if why := p.Commit(0, 1, 0); why != api.ErrDown {
		t.Fatal("Commit: error", why)
	}
	must(t, d.Restore([]api.Fate{{Kind: api.FateTear, Mask: uint8(r.Uint32())}}))
	q := opened(t, d)
	must(t, q.Keep(kept))
	m.is(t, d, q)
	return q
}
