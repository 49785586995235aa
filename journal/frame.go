package journal

import (
	"bytes"
	"slices"

	"lading/api"
	"lading/codec"
	"lading/crc"
)

const (
	mark      = "LDNG"
	sumAt     = 4  // the checksum
	ownAt     = 8  // the sector's own number
	startAt   = 16 // that of its batch's first sector
	countAt   = 24 // how many sectors the batch has
	lengthAt  = 28 // the piece's length
	pieceAt   = api.SectorSize - api.Payload
	byteBits  = 8
	lastStart = 1 << 62
)

// Frame are the sectors of a batch, from the number s on.
func Frame(records []string, s uint64) ([][]byte, api.Errno) {
	if len(records) > api.MaxList {
		return nil, api.ErrMany
	}
	for _, r := range records {
		if len(r) > api.MaxRecord {
			return nil, api.ErrLong
		}
	}
	if !isStart(s) {
		return nil, api.ErrRange
	}
	pieces := slices.Collect(slices.Chunk(batchText(records), api.Payload))
	var sectors [][]byte
	for i, piece := range pieces {
		sectors = append(sectors, sectorOf(piece, s, i, len(pieces)))
	}
	return sectors, api.OK
}

// Unframe is the batch whose sectors these are, from the number s on.
func Unframe(sectors [][]byte, s uint64) ([]string, api.Errno) {
	if !isStart(s) {
		return nil, api.ErrRange
	}
	var text []byte
	for i, b := range sectors {
		piece, ok := pieceOf(b, s, i, len(sectors))
		if !ok {
			return nil, api.ErrCode
		}
		text = append(text, piece...)
	}
	records, ok := readBatch(text)
	if !ok {
		return nil, api.ErrCode
	}
	return records, api.OK
}

func isStart(s uint64) bool {
	return s >= 1 && s <= lastStart
}

// sectorOf is the sector of the piece i of n. Its checksum is taken while there are noughts in the checksum's place.
func sectorOf(piece []byte, s uint64, i, n int) []byte {
	b := make([]byte, api.SectorSize)
	copy(b, mark)
	putLow(b[ownAt:startAt], s+uint64(i))
	putLow(b[startAt:countAt], s)
	putLow(b[countAt:lengthAt], uint64(n))
	putLow(b[lengthAt:pieceAt], uint64(len(piece)))
	copy(b[pieceAt:], piece)
	putLow(b[sumAt:ownAt], uint64(crc.Of(b)))
	return b
}

// pieceOf is the piece in b, if b is just what that piece is framed as: so nothing that framing writes goes unchecked.
func pieceOf(b []byte, s uint64, i, n int) ([]byte, bool) {
	if len(b) != api.SectorSize {
		return nil, false
	}
	length := low(b[lengthAt:pieceAt])
	isLast := i == n-1
	if length < 1 || length > api.Payload || !isLast && length < api.Payload {
		return nil, false
	}
	piece := b[pieceAt : pieceAt+length]
	return piece, bytes.Equal(b, sectorOf(piece, s, i, n))
}

// sectorsSaid is how many sectors the batch of a sector has, if the sector is to be believed.
func sectorsSaid(b []byte) uint64 {
	return low(b[countAt:lengthAt])
}

// putLow fills b with n, the lowest byte first.
func putLow(b []byte, n uint64) {
	for i := range b {
		b[i] = byte(n >> (byteBits * i))
	}
}

func low(b []byte) uint64 {
	var n uint64
	for i, x := range b {
		n |= uint64(x) << (byteBits * i)
	}
	return n
}

// batchText has each record written apart, since codec copies all that it writes behind.
func batchText(records []string) []byte {
	text := codec.Num(nil, uint64(len(records)))
	for _, r := range records {
		text = append(text, codec.Text(nil, r)...)
	}
	return text
}
