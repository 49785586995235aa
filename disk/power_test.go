package disk_test

import (
	"bytes"
	"fmt"
	"maps"
	"math/rand/v2"
	"slices"
	"testing"

	"lading/api"
	"lading/disk"
)

// Promises 4.3, 4.6 and 4.7: the chapter's example.
func TestRestoreExample(t *testing.T) {
	for kind, want := range map[api.FateKind]string{api.FateLose: "a", api.FateKeep: "b"} {
		d := disk.New(1)
		must(t, d.Write(0, []byte("a")))
		must(t, d.Sync())
		must(t, d.Write(0, []byte("b")))
		must(t, d.Cut())
		must(t, d.Restore([]api.Fate{{Kind: kind, Mask: 0x55}}))
		holds(t, d, 0, want)
		unsynced(t, d)
		if d.Down() || d.Writes() != 2 {
			t.Errorf("restored: down %v, %d writes", d.Down(), d.Writes())
		}
	}
}

// Promise 4.3: fates go by rising sectors, not by when they were written; those without one lose; those beyond do nothing.
func TestRestoreByTurns(t *testing.T) {
	d := disk.New(6)
	for i := range 6 {
		must(t, d.Write(i, fmt.Append(nil, "old", i)))
	}
	must(t, d.Sync())
	for _, i := range []int{5, 1, 3, 0} {
		must(t, d.Write(i, fmt.Append(nil, "new", i)))
	}
	must(t, d.Cut())
	few, more := d.Fork(), d.Fork()
	must(t, few.Restore([]api.Fate{{}, {Kind: api.FateKeep}}))
	for i, want := range []string{"old0", "new1", "old2", "old3", "old4", "old5"} {
		holds(t, few, i, want)
	}
	fates := slices.Repeat([]api.Fate{{Kind: api.FateKeep}}, api.MaxSectors)
	fates[2] = api.Fate{}
	must(t, more.Restore(fates))
	for i, want := range []string{"new0", "new1", "old2", "old3", "old4", "new5"} {
		holds(t, more, i, want)
	}
	must(t, d.Restore(nil))
	for i := range 6 {
		holds(t, d, i, fmt.Sprint("old", i))
	}
}

// Promises 4.3 and 4.7: a torn sector has the grains of its mask as they were written, all masks gone through.
func TestTear(t *testing.T) {
	olds := [][]byte{nil, bytes.Repeat([]byte("o"), api.SectorSize), bytes.Repeat([]byte("o"), api.Grain+7)}
	news := [][]byte{nil, bytes.Repeat([]byte("n"), api.SectorSize), bytes.Repeat([]byte("n"), 2*api.Grain+1)}
	for mask := range 256 {
		for _, was := range olds {
			for _, is := range news {
				d := disk.New(1)
				must(t, d.Write(0, was))
				must(t, d.Sync())
				must(t, d.Write(0, is))
				must(t, d.Cut())
				must(t, d.Restore([]api.Fate{{Kind: api.FateTear, Mask: uint8(mask)}}))
				b, why := d.Read(0)
				if want := tornBy(mask, sector(string(was)), sector(string(is))); !bytes.Equal(b, want) || why != api.OK {
					t.Fatalf("torn by %b, %d bytes over %d: error %d, grains %s", mask, len(is), len(was), why, grains(b))
				}
			}
		}
	}
}

// tornBy is what becomes of a torn sector, byte by byte.
func tornBy(mask int, was, is []byte) []byte {
	b := bytes.Clone(was)
	for i := range b {
		if mask&(1<<(i/512)) != 0 {
			b[i] = is[i]
		}
	}
	return b
}

// grains is the first byte of each.
func grains(b []byte) string {
	var s []byte
	for i := 0; i < len(b); i += 512 {
		s = append(s, b[i])
	}
	return fmt.Sprintf("%q", s)
}

// Promises 4.3, P2 and P3: the errors of Restore, in order; a refused one changes nothing.
func TestRestoreErrors(t *testing.T) {
	d := disk.New(2)
	wrong := slices.Repeat([]api.Fate{{Kind: api.FateCount}}, api.MaxSectors+1)
	for _, fates := range [][]api.Fate{nil, {{Kind: api.FateKeep}}, wrong, wrong[:1]} {
		if why := d.Restore(fates); why != api.ErrState {
			t.Errorf("Restore of %d fates with power: error %d", len(fates), why)
		}
	}
	must(t, d.Write(1, []byte("a")))
	must(t, d.Arm(0))
	if why := d.Write(0, []byte("b")); why != api.ErrDown {
		t.Fatal("error", why)
	}
	last := make([]api.Fate, 9)
	last[8].Kind = 255
	cases := []struct {
		fates []api.Fate
		why   api.Errno
	}{
		{wrong, api.ErrMany},
		{make([]api.Fate, api.MaxSectors+1), api.ErrMany},
		{wrong[:api.MaxSectors], api.ErrType},
		{wrong[:1], api.ErrType},
		{last, api.ErrType},
	}
	for i, c := range cases {
		if why := d.Restore(c.fates); why != c.why {
			t.Errorf("case %d: error %d, want %d", i, why, c.why)
		}
		if !d.Down() || d.Writes() != 1 {
			t.Fatalf("case %d: a refused Restore left: down %v, %d writes", i, d.Down(), d.Writes())
		}
		unsynced(t, d, 1)
	}
	must(t, d.Restore([]api.Fate{{Kind: api.FateKeep}}))
	holds(t, d, 1, "a")
	holds(t, d, 0, "")
}

// model is a disk as the document words it, in the plainest way.
type model struct {
	synced, written []string
	fresh           map[int]bool
	down            bool
	armed           int // below 0: not at all
	writes          int
}

func newModel(n int) *model {
	m := &model{fresh: map[int]bool{}, armed: -1}
	m.synced = slices.Repeat([]string{string(sector(""))}, n)
	m.written = slices.Clone(m.synced)
	return m
}

func (m *model) write(i int, data string) api.Errno {
	switch {
	case m.down:
		return api.ErrDown
	case i < 0 || i >= len(m.synced):
		return api.ErrRange
	case len(data) > api.SectorSize:
		return api.ErrLong
	case m.armed == 0:
		m.down = true
		return api.ErrDown
	case m.armed > 0:
		m.armed--
	}
	m.written[i], m.fresh[i] = string(sector(data)), true
	m.writes++
	return api.OK
}

func (m *model) restore(fates []api.Fate) {
	for turn, i := range slices.Sorted(maps.Keys(m.fresh)) {
		if turn < len(fates) && fates[turn].Kind == api.FateKeep {
			m.synced[i] = m.written[i]
		}
		if turn < len(fates) && fates[turn].Kind == api.FateTear {
			m.synced[i] = string(tornBy(int(fates[turn].Mask), []byte(m.synced[i]), []byte(m.written[i])))
		}
	}
	m.written, m.fresh = slices.Clone(m.synced), map[int]bool{}
	m.down, m.armed = false, -1
}

func (m *model) do(s api.DiskStep) api.Errno {
	if s.Kind == api.DiskWrite {
		return m.write(s.Sector, string(s.Data))
	}
	if s.Kind == api.DiskRestore && !m.down {
		return api.ErrState
	}
	if s.Kind != api.DiskRestore && m.down {
		return api.ErrDown
	}
	switch s.Kind {
	case api.DiskSync:
		m.synced, m.fresh = slices.Clone(m.written), map[int]bool{}
	case api.DiskArm:
		m.armed = max(s.Count, -1)
	case api.DiskCut:
		m.down = true
	case api.DiskRestore:
		m.restore(s.Fates)
	}
	return api.OK
}

// check holds a disk against its model.
func (m *model) check(t *testing.T, d *disk.Disk) {
	t.Helper()
	if d.Down() != m.down || d.Writes() != m.writes || !slices.Equal(d.Unsynced(), slices.Sorted(maps.Keys(m.fresh))) {
		t.Fatalf("down %v, %d writes, unsynced %v; the model: %+v", d.Down(), d.Writes(), d.Unsynced(), m.fresh)
	}
	for i := range m.synced {
		b, why := d.Read(i)
		if m.down && (len(b) != 0 || why != api.ErrDown) {
			t.Fatalf("sector %d without power: %d bytes, error %d", i, len(b), why)
		}
		if !m.down && (string(b) != m.written[i] || why != api.OK) {
			t.Fatalf("sector %d is not what the model has, error %d", i, why)
		}
	}
}

// someStep is a step that is often a sound one.
func someStep(r *rand.Rand, sectors int) api.DiskStep {
	s := api.DiskStep{Kind: []api.DiskKind{api.DiskWrite, api.DiskWrite, api.DiskWrite, api.DiskSync, api.DiskArm, api.DiskCut, api.DiskRestore, api.DiskRestore}[r.IntN(8)]}
	switch s.Kind {
	case api.DiskWrite:
		s.Sector = r.IntN(sectors+2) - 1
		s.Data = bytes.Repeat([]byte{byte('a' + r.IntN(26))}, r.IntN(api.SectorSize+20))
	case api.DiskArm:
		s.Count = r.IntN(6) - 2
	case api.DiskRestore:
		s.Fates = someFates(r, sectors)
	}
	return s
}

// someFates are up to one for each sector.
func someFates(r *rand.Rand, sectors int) []api.Fate {
	fates := make([]api.Fate, r.IntN(sectors+1))
	for i := range fates {
		fates[i] = api.Fate{Kind: api.FateKind(r.IntN(3)), Mask: uint8(r.Uint32())}
	}
	return fates
}

// Promises 4.1 to 4.9: over long runs of steps a disk is what its model is, and so is each fork.
func TestLongRuns(t *testing.T) {
	for seed := range 60 {
		r := rand.New(rand.NewPCG(uint64(seed), 2))
		d, m := disk.New(4), newModel(4)
		for range 60 {
			s := someStep(r, 4)
			if got, want := d.Do(s), m.do(s); got != want {
				t.Fatalf("seed %d, kind %d: error %d, want %d", seed, s.Kind, got, want)
			}
			m.check(t, d)
			if r.IntN(10) == 0 {
				old := d
				d = d.Fork()
				old.Cut()
				old.Restore(nil)
				old.Write(0, []byte("gone its way"))
			}
		}
	}
}

// Promises 4.6 and 4.7: behind any cut and any fates, what was synced and not written since is read, and the rest is, grain by grain, old or new.
func TestSyncedIsSafe(t *testing.T) {
	was, is := bytes.Repeat([]byte("o"), api.SectorSize), bytes.Repeat([]byte("n"), api.SectorSize)
	for seed := range 200 {
		r := rand.New(rand.NewPCG(uint64(seed), 3))
		d := disk.New(8)
		for i := range 8 {
			must(t, d.Write(i, was))
		}
		must(t, d.Sync())
		must(t, d.Arm(r.IntN(6)))
		for d.Write(r.IntN(8), is) == api.OK {
		}
		fresh := d.Unsynced()
		must(t, d.Restore(someFates(r, 8)))
		for i := range 8 {
			b, _ := d.Read(i)
			if !slices.Contains(fresh, i) && !bytes.Equal(b, was) {
				t.Fatalf("seed %d: sector %d was synced and is lost", seed, i)
			}
			for g := 0; g < api.SectorSize; g += api.Grain {
				grain := b[g : g+api.Grain]
				if !bytes.Equal(grain, was[:api.Grain]) && !bytes.Equal(grain, is[:api.Grain]) {
					t.Fatalf("seed %d: a grain of sector %d is torn", seed, i)
				}
			}
		}
	}
}
