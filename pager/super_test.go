package pager_test

import (
	"bytes"
	"encoding/binary"
	"hash/crc32"
	"math"
	"math/rand/v2"
	"testing"

	"lading/api"
	"lading/pager"
)

func must(t *testing.T, why api.Errno) {
	t.Helper()
	if why != api.OK {
		t.Fatal("error", why)
	}
}

// raw is a superblock's bytes as the document words them, of any numbers.
func raw(gen, seq uint64, root, journal, live uint32) []byte {
	b := []byte("LDSB")
	b = binary.LittleEndian.AppendUint64(b, gen)
	b = binary.LittleEndian.AppendUint64(b, seq)
	for _, n := range []uint32{root, journal, live} {
		b = binary.LittleEndian.AppendUint32(b, n)
	}
	return sealed(append(b, make([]byte, 4092-len(b))...))
}

func sealed(b []byte) []byte {
	return binary.LittleEndian.AppendUint32(bytes.Clone(b), crc32.ChecksumIEEE(b))
}

func rawOf(s api.Super) []byte {
	return raw(s.Gen, s.Seq, uint32(s.Root), uint32(s.Journal), uint32(s.Live))
}

// right are superblocks that may be: the least and the greatest numbers, and some between.
func right() []api.Super {
	l := []api.Super{
		{Gen: 1, Seq: 1, Journal: 1},
		{Gen: 1 << 62, Seq: 1 << 61, Root: 1024, Journal: 1024, Live: 1024},
		{Gen: 2, Root: 6, Seq: 3, Journal: 4, Live: 1},
		{Gen: 0x0102030405060708, Seq: 0x0102030405060708, Root: 0x102, Journal: 0x203, Live: 0x304},
		{Gen: 1 << 62, Seq: 1, Journal: 1}, {Gen: 1, Seq: 1 << 61, Journal: 1}, {Gen: 1, Seq: 1, Root: 1024, Journal: 1},
		{Gen: 1, Seq: 1, Journal: 1024}, {Gen: 1, Seq: 1, Journal: 1, Live: 1024}, {Gen: 1, Seq: 1, Root: 1, Journal: 1},
	}
	r := rand.New(rand.NewPCG(7, 1))
	for range 200 {
		l = append(l, api.Super{
			Gen: 1 + r.Uint64N(1<<62), Seq: 1 + r.Uint64N(1<<61),
			Root: r.IntN(1025), Journal: 1 + r.IntN(1024), Live: r.IntN(1025),
		})
	}
	return l
}

// Promise 7.1: a superblock's bytes are those that the document words, and it is read from them.
func TestBytes(t *testing.T) {
	for _, s := range right() {
		b, why := pager.Bytes(s)
		if why != api.OK || !bytes.Equal(b, rawOf(s)) {
			t.Fatalf("Bytes(%+v): error %d, or other bytes: %x", s, why, b[:min(len(b), 40)])
		}
		if got, why := pager.Read(b); got != s || why != api.OK {
			t.Fatalf("Read of the bytes of %+v = %+v, error %d", s, got, why)
		}
	}
}

// Promises 7.1 and P2: numbers that may not be, one by one.
func TestBytesWrong(t *testing.T) {
	base := api.Super{Gen: 5, Root: 7, Seq: 3, Journal: 4, Live: 2}
	with := func(change func(*api.Super)) api.Super {
		s := base
		change(&s)
		return s
	}
	wrong := []api.Super{{}}
	for _, n := range []uint64{0, 1<<62 + 1, 1 << 63, math.MaxUint64} {
		wrong = append(wrong, with(func(s *api.Super) { s.Gen = n }))
	}
	for _, n := range []uint64{0, 1<<61 + 1, 1 << 62, math.MaxUint64} {
		wrong = append(wrong, with(func(s *api.Super) { s.Seq = n }))
	}
	for _, n := range []int{-1, 1025, 1 << 32, 1<<32 + 4, math.MinInt, math.MaxInt} {
		wrong = append(wrong, with(func(s *api.Super) { s.Root = n }))
		wrong = append(wrong, with(func(s *api.Super) { s.Journal = n }))
		wrong = append(wrong, with(func(s *api.Super) { s.Live = n }))
	}
	wrong = append(wrong, with(func(s *api.Super) { s.Journal = 0 }))
	for _, s := range wrong {
		if b, why := pager.Bytes(s); b != nil || why != api.ErrRange {
			t.Errorf("Bytes(%+v): %d bytes, error %d, want %d", s, len(b), why, api.ErrRange)
		}
	}
}

func notRead(t *testing.T, name string, b []byte) {
	t.Helper()
	if s, why := pager.Read(b); s != (api.Super{}) || why != api.ErrCode {
		t.Errorf("Read of %s: %+v, error %d, want %d", name, s, why, api.ErrCode)
	}
}

// Promises 7.1 and P2: another byte anywhere, another length.
func TestReadSpoilt(t *testing.T) {
	good := rawOf(api.Super{Gen: 5, Root: 7, Seq: 3, Journal: 4, Live: 2})
	for i := range good {
		for _, x := range []byte{1, 0x80, 0xff} {
			b := bytes.Clone(good)
			b[i] ^= x
			notRead(t, "a superblock with another byte", b)
		}
	}
	notRead(t, "nothing", nil)
	notRead(t, "no bytes", []byte{})
	notRead(t, "a mark", []byte("LDSB"))
	notRead(t, "a byte less", good[:4095])
	notRead(t, "a byte more", append(bytes.Clone(good), 0))
	notRead(t, "the numbers alone", good[:32])
	notRead(t, "the numbers with a checksum", sealed(good[:32]))
	notRead(t, "less noughts", sealed(good[:4091]))
	notRead(t, "more noughts", sealed(append(bytes.Clone(good[:4092]), 0)))
	notRead(t, "noughts", make([]byte, 4096))
	notRead(t, "sealed noughts", sealed(make([]byte, 4092)))
	r := rand.New(rand.NewPCG(7, 2))
	for range 100 {
		b := make([]byte, r.IntN(5000))
		for i := range b {
			b[i] = byte(r.Uint32())
		}
		notRead(t, "any bytes", b)
	}
}

// Promise 7.1: with the right checksum, too, another mark, something behind the numbers, and numbers that may not be are no superblock's.
func TestReadSealedWrong(t *testing.T) {
	good := rawOf(api.Super{Gen: 5, Root: 7, Seq: 3, Journal: 4, Live: 2})[:4092]
	for i := range good {
		if i >= 4 && i < 32 {
			continue
		}
		b := bytes.Clone(good)
		b[i] ^= 1
		notRead(t, "another byte beside the numbers", sealed(b))
	}
	for _, gen := range []uint64{0, 1<<62 + 1, 1 << 63, math.MaxUint64} {
		notRead(t, "a wrong Gen", raw(gen, 3, 7, 4, 2))
	}
	for _, seq := range []uint64{0, 1<<61 + 1, 1 << 63, math.MaxUint64} {
		notRead(t, "a wrong Seq", raw(5, seq, 7, 4, 2))
	}
	for _, n := range []uint32{1025, 1 << 16, 1 << 31, math.MaxUint32} {
		notRead(t, "a wrong Root", raw(5, 3, n, 4, 2))
		notRead(t, "a wrong Journal", raw(5, 3, 7, n, 2))
		notRead(t, "a wrong Live", raw(5, 3, 7, 4, n))
	}
	notRead(t, "no Journal", raw(5, 3, 7, 0, 2))
}

// Promise 7.7: bytes that are answered are new memory; those that are handed in stay as they were.
func TestSuperMemory(t *testing.T) {
	s := api.Super{Gen: 5, Root: 7, Seq: 3, Journal: 4, Live: 2}
	a, _ := pager.Bytes(s)
	for i := range a[:cap(a)] {
		a[:cap(a)][i] = '!'
	}
	b, _ := pager.Bytes(s)
	if !bytes.Equal(b, rawOf(s)) {
		t.Error("Bytes: answers share memory")
	}
	room := append(make([]byte, 0, 5000), b...)
	pager.Read(room)
	if !bytes.Equal(room, rawOf(s)) || !bytes.Equal(room[4096:5000], make([]byte, 904)) {
		t.Error("Read: what was handed in was changed")
	}
}
