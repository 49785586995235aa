package pager

import (
	"bytes"

	"lading/api"
	"lading/crc"
)

const (
	mark      = "LDSB"
	genAt     = 4
	seqAt     = 12
	rootAt    = 20
	journalAt = 24
	liveAt    = 28
	endAt     = 32
	sumSize   = 4 // bytes of the checksum at the end
	byteBits  = 8
	blocks    = 2 // sectors of superblocks
	lastGen   = 1 << 62
	lastSeq   = 1 << 61
)

// Bytes are a superblock's.
func Bytes(s api.Super) ([]byte, api.Errno) {
	if !mayBe(s) {
		return nil, api.ErrRange
	}
	b := make([]byte, api.SectorSize-sumSize)
	copy(b, mark)
	putLow(b[genAt:seqAt], s.Gen)
	putLow(b[seqAt:rootAt], s.Seq)
	putLow(b[rootAt:journalAt], uint64(s.Root))
	putLow(b[journalAt:liveAt], uint64(s.Journal))
	putLow(b[liveAt:endAt], uint64(s.Live))
	return crc.Seal(b), api.OK
}

// Read is the superblock of some bytes. It has one form alone, so they must be just what the superblock that is read is written as.
func Read(b []byte) (api.Super, api.Errno) {
	if len(b) != api.SectorSize {
		return api.Super{}, api.ErrCode
	}
	s := api.Super{
		Gen:     low(b[genAt:seqAt]),
		Seq:     low(b[seqAt:rootAt]),
		Root:    int(low(b[rootAt:journalAt])),
		Journal: int(low(b[journalAt:liveAt])),
		Live:    int(low(b[liveAt:endAt])),
	}
	again, why := Bytes(s)
	if why != api.OK || !bytes.Equal(again, b) {
		return api.Super{}, api.ErrCode
	}
	return s, api.OK
}

func mayBe(s api.Super) bool {
	return s.Gen >= 1 && s.Gen <= lastGen && s.Seq >= 1 && s.Seq <= lastSeq &&
		upToSectors(s.Root) && upToSectors(s.Live) && s.Journal != 0 && upToSectors(s.Journal)
}

func upToSectors(n int) bool {
	return n >= 0 && n <= api.MaxSectors
}

// putLow fills b with n, the lowest byte first.
func putLow(b []byte, n uint64) {
	for i := range b {
		b[i] = byte(n >> (byteBits * i))
	}
}

func low(b []byte) uint64 {
	var n uint64
	for i, x := range b {
		n |= uint64(x) << (byteBits * i)
	}
	return n
}

// firstPage is the first one behind a journal.
func firstPage(journal int) int {
	return blocks + journal
}

// fits tells whether a disk of some sectors has room for a journal, and for pages enough behind it.
func fits(journal, sectors int) bool {
	return journal >= 1 && journal <= sectors-blocks-api.MinPages
}

// counts is the superblock that does on a disk.
func counts(d sectors) (api.Super, api.Errno) {
	var found api.Super // of the Gen 0, which none has
	for sector := range blocks {
		s, why := superAt(d, sector)
		if why == api.ErrDown {
			return api.Super{}, why
		}
		if why == api.OK && s.Gen > found.Gen {
			found = s
		}
	}
	if found.Gen == 0 {
		return api.Super{}, api.ErrCode
	}
	return found, api.OK
}

// superAt is the superblock in a sector, if it belongs there and fits the disk.
func superAt(d sectors, sector int) (api.Super, api.Errno) {
	b, why := d.Read(sector)
	if why != api.OK {
		return api.Super{}, why
	}
	s, why := Read(b)
	if why != api.OK {
		return api.Super{}, why
	}
	isPage := s.Root >= firstPage(s.Journal) && s.Root < d.Sectors()
	if home(s) != sector || !fits(s.Journal, d.Sectors()) || s.Root != 0 && !isPage {
		return api.Super{}, api.ErrCode
	}
	return s, api.OK
}

// home is the sector of a superblock: two in turn, so that the last one stands while the next one is written.
func home(s api.Super) int {
	return int(s.Gen % blocks)
}

// block is what is to be written to a superblock's sector.
type block struct {
	disk   sectors
	sector int
	data   []byte
}

func blockOf(d sectors, s api.Super) (block, api.Errno) {
	data, why := Bytes(s)
	if why != api.OK {
		return block{}, why
	}
	return block{disk: d, sector: home(s), data: data}, api.OK
}

func (b block) write() api.Errno {
	return b.disk.Write(b.sector, b.data)
}

// inTurn does steps till one of them can't be done.
func inTurn(steps ...func() api.Errno) api.Errno {
	for _, step := range steps {
		if why := step(); why != api.OK {
			return why
		}
	}
	return api.OK
}
