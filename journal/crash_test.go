package journal_test

import (
	"math/rand/v2"
	"slices"
	"strings"
	"testing"

	"lading/api"
	"lading/disk"
	"lading/journal"
)

// fates are those that a sector may have: lost, kept, and torn in some ways.
func fates() []api.Fate {
	return []api.Fate{
		{Kind: api.FateLose}, {Kind: api.FateKeep},
		{Kind: api.FateTear}, {Kind: api.FateTear, Mask: 1}, {Kind: api.FateTear, Mask: 0xfe},
		{Kind: api.FateTear, Mask: 0x7f}, {Kind: api.FateTear, Mask: 0x55}, {Kind: api.FateTear, Mask: 0xff},
	}
}

// isWhole tells whether a sector that differs in all its grains is as it was written.
func isWhole(f api.Fate) bool {
	return f.Kind == api.FateKeep || f.Kind == api.FateTear && f.Mask == 0xff
}

// Promise 5.7: the power goes at each write of an Append, and the sectors have each of the fates: what was answered OK is found, and nothing of the batch.
func TestCutWithinAppend(t *testing.T) {
	for count := range 3 {
		for _, f := range fates() {
			for _, g := range fates() {
				d := disk.New(8)
				j, _ := opened(t, d, 1, 6, 5)
				must(t, j.Append([]string{"a"}))
				must(t, j.Append(sized(t, 2*4064)))
				must(t, d.Arm(count))
				if why := j.Append(sized(t, 3*4064)); why != api.ErrDown {
					t.Fatal("Append: error", why)
				}
				if _, _, why := journal.Open(d, 1, 6, 5); why != api.ErrDown {
					t.Fatal("Open without power: error", why)
				}
				must(t, d.Restore([]api.Fate{f, g}))
				k, l := opened(t, d, 1, 6, 5)
				wants(t, l, [][]string{{"a"}, sized(t, 2*4064)})
				stands(t, k, 5, 8, 3)
				must(t, k.Append([]string{"again"}))
				_, l = opened(t, d, 1, 6, 5)
				wants(t, l, [][]string{{"a"}, sized(t, 2*4064), {"again"}})
			}
		}
	}
}

// Promise 5.7: a batch of two sectors that were written and not synced is found if both are as they were written, and not at all if one is not.
func TestFatesOfABatch(t *testing.T) {
	for _, f := range fates() {
		for _, g := range fates() {
			d := disk.New(8)
			for i := range 8 {
				must(t, d.Write(i, []byte(strings.Repeat("#", api.SectorSize))))
			}
			must(t, d.Sync())
			j, _ := opened(t, d, 2, 4, 1)
			must(t, j.Append([]string{"a"}))
			batch := sized(t, 2*4064)
			for i, b := range framed(text(batch), 2) {
				must(t, d.Write(3+i, b))
			}
			must(t, d.Cut())
			must(t, d.Restore([]api.Fate{f, g}))
			_, l := opened(t, d, 2, 4, 1)
			if isWhole(f) && isWhole(g) {
				wants(t, l, [][]string{{"a"}, batch})
			} else {
				wants(t, l, [][]string{{"a"}})
			}
		}
	}
}

// model is a journal without a disk: the batches that count, and where each of them begins.
type model struct {
	count      int
	from, next uint64
	starts     []uint64
	kept       [][]string
	cutAt      map[uint64]int // numbers at which a batch of several sectors was cut: of another one there nothing is said
}

func (m *model) room() int { return m.count - int(m.next-m.from) }

func (m *model) append(records []string) {
	m.starts = append(m.starts, m.next)
	m.kept = append(m.kept, records)
	m.next += uint64(sectors(records))
}

func sectors(records []string) int { return (len(text(records)) + 4063) / 4064 }

// drop forgets the first n batches.
func (m *model) drop(n int) {
	m.starts, m.kept = m.starts[n:], m.kept[n:]
	m.from = m.next
	if len(m.starts) > 0 {
		m.from = m.starts[0]
	}
}

// someRecords are a batch of up to four sectors.
func someRecords(r *rand.Rand) []string {
	var l []string
	for range r.IntN(4) {
		l = append(l, strings.Repeat(string(rune('a'+r.IntN(26))), r.IntN(api.MaxRecord)>>r.IntN(12)))
	}
	return l
}

func someFates(r *rand.Rand) []api.Fate {
	l := make([]api.Fate, r.IntN(4))
	for i := range l {
		l[i] = api.Fate{Kind: api.FateKind(r.IntN(3)), Mask: uint8(r.Uint32())}
	}
	return l
}

// crash has the power go within an Append, and answers the journal that is opened then.
func (m *model) crash(t *testing.T, r *rand.Rand, d *disk.Disk, j *journal.Journal) *journal.Journal {
	t.Helper()
	records := someRecords(r)
	if m.cutAt[m.next] > 0 {
		records = []string{"one sector"}
	}
	n := sectors(records)
	must(t, d.Arm(r.IntN(n)))
	want := api.ErrDown
	if n > m.room() {
		want = api.ErrFull
		defer func() { must(t, d.Arm(-1)) }()
	}
	if why := j.Append(records); why != want {
		t.Fatalf("Append of %d sectors, room %d: error %d, want %d", n, m.room(), why, want)
	}
	if want == api.ErrFull {
		return j
	}
	must(t, d.Restore(someFates(r)))
	j, l := opened(t, d, 1, m.count, m.from)
	if len(l) > len(m.kept) && slices.Equal(l[len(l)-1], records) {
		m.append(records)
	} else if n > 1 {
		m.cutAt[m.next] = n
	}
	wants(t, l, m.kept)
	return j
}

// Promises 5.3, 5.4 and 5.7 to 5.9: over long runs of appending, dropping and power cuts a journal is what its model is, and stands as it stood when it is opened anew.
func TestLongRuns(t *testing.T) {
	for seed := range uint64(60) {
		r := rand.New(rand.NewPCG(seed, 5))
		count := 1 + r.IntN(8)
		from := 1 + r.Uint64N(20)
		d := disk.New(10)
		m := &model{count: count, from: from, next: from, cutAt: map[uint64]int{}}
		j, _ := opened(t, d, 1, count, from)
		for range 60 {
			switch r.IntN(4) {
			case 0, 1:
				records := someRecords(r)
				want := api.OK
				if sectors(records) > m.room() {
					want = api.ErrFull
				} else {
					m.append(records)
				}
				if why := j.Append(records); why != want {
					t.Fatalf("seed %d: Append: error %d, want %d", seed, why, want)
				}
			case 2:
				m.drop(r.IntN(len(m.kept) + 1))
				must(t, j.Drop(m.from))
			case 3:
				j = m.crash(t, r, d, j)
			}
			stands(t, j, m.from, m.next, m.room())
			k, l := opened(t, d, 1, count, m.from)
			wants(t, l, m.kept)
			stands(t, k, m.from, m.next, m.room())
		}
	}
}
