package crc_test

import (
	"bytes"
	"hash/crc32"
	"math"
	"math/rand/v2"
	"testing"

	"lading/api"
	"lading/crc"
)

// step is one shift of the rule, as the document words it.
func step(c uint32) uint32 {
	out := c & 1
	c >>= 1
	if out == 1 {
		c ^= 0xEDB88320
	}
	return c
}

// steps are so many shifts.
func steps(c uint32, count int) uint32 {
	for range count {
		c = step(c)
	}
	return c
}

// slow is the checksum, bit by bit as the document words it.
func slow(b []byte) uint32 {
	c := uint32(math.MaxUint32)
	for _, x := range b {
		c = steps(c^uint32(x), 8)
	}
	return ^c
}

// some are bytes, the same ones each time.
func some(seed uint64, count int) []byte {
	r := rand.New(rand.NewPCG(seed, 1))
	b := make([]byte, count)
	for i := range b {
		b[i] = byte(r.Uint32())
	}
	return b
}

// Promise 2.1: Of.
func TestOf(t *testing.T) {
	cases := []struct {
		s    string
		want uint32
	}{
		{"", 0},
		{"123456789", 0xCBF43926},
		{"a", 0xE8B7BE43},
		{"\x00", 0xD202EF8D},
		{"\xff\xff\xff\xff", 0xFFFFFFFF},
		{"The quick brown fox jumps over the lazy dog", 0x414FA339},
	}
	for _, c := range cases {
		if n := crc.Of([]byte(c.s)); n != c.want {
			t.Errorf("Of(%q) = %08X; want %08X", c.s, n, c.want)
		}
	}
	if n := crc.Of(nil); n != 0 {
		t.Errorf("Of(nil) = %08X", n)
	}
	for x := range 256 {
		if b := []byte{byte(x)}; crc.Of(b) != slow(b) {
			t.Errorf("Of(%d) = %08X; want %08X", b, crc.Of(b), slow(b))
		}
	}
	for seed := range uint64(200) {
		b := some(seed, int(seed))
		if n := crc.Of(b); n != slow(b) || n != crc32.ChecksumIEEE(b) {
			t.Fatalf("Of(%d) = %08X; want %08X", b, n, slow(b))
		}
	}
	if b := some(1, 1<<20); crc.Of(b) != crc32.ChecksumIEEE(b) {
		t.Error("Of of many bytes")
	}
}

// Promises 2.1 and 2.5: Update, of bytes in two parts, wherever they are cut.
func TestUpdate(t *testing.T) {
	b := some(2, 100)
	whole := slow(b)
	for i := range len(b) + 1 {
		if n := crc.Update(slow(b[:i]), b[i:]); n != whole {
			t.Errorf("Update at %d = %08X; want %08X", i, n, whole)
		}
	}
	if n := crc.Update(0, b); n != crc.Of(b) {
		t.Errorf("Update(0, b) = %08X; want %08X", n, crc.Of(b))
	}
	for _, sum := range []uint32{0, 1, 0xEDB88320, 0x80000000, math.MaxUint32} {
		if n := crc.Update(sum, nil); n != sum {
			t.Errorf("Update(%08X, nil) = %08X", sum, n)
		}
		if n, want := crc.Update(sum, b), crc32.Update(sum, crc32.IEEETable, b); n != want {
			t.Errorf("Update(%08X, b) = %08X; want %08X", sum, n, want)
		}
	}
}

func sums() []uint32 {
	return []uint32{0, 1, 2, 0x80000000, 0x7FFFFFFF, 0xEDB88320, 0xCBF43926, 0x12345678, math.MaxUint32}
}

// Promise 2.2: Combine, shift by shift.
func TestCombine(t *testing.T) {
	for _, a := range sums() {
		for _, b := range sums() {
			for _, n := range []int{0, 1, 2, 3, 4, 5, 7, 8, 31, 32, 33, 255, 256, 1000} {
				want := steps(a, 8*n) ^ b
				if c, why := crc.Combine(a, b, n); c != want || why != api.OK {
					t.Fatalf("Combine(%08X, %08X, %d) = %08X, error %d; want %08X", a, b, n, c, why, want)
				}
			}
		}
	}
}

// Promise 2.2: n at its ends. Shifts come round after 2^32 - 1 of them, so 8 times 2^31, which is 4 times 2^32, come to 4 of them.
func TestCombineAtTheEnds(t *testing.T) {
	for _, a := range sums() {
		for _, b := range sums() {
			if c, why := crc.Combine(a, b, 0); c != a^b || why != api.OK {
				t.Errorf("Combine(%08X, %08X, 0) = %08X, error %d", a, b, c, why)
			}
			if c, why := crc.Combine(a, b, 1<<31); c != steps(a, 4)^b || why != api.OK {
				t.Errorf("Combine(%08X, %08X, 2^31) = %08X, error %d; want %08X", a, b, c, why, steps(a, 4)^b)
			}
			if c, why := crc.Combine(a, b, 1<<31-1); steps(c^b, 8) != steps(a, 4) || why != api.OK {
				t.Errorf("Combine(%08X, %08X, 2^31 - 1) = %08X, error %d", a, b, c, why)
			}
			for _, n := range []int{-1, -8, 1<<31 + 1, 1 << 32, 1<<32 + 1, 1 << 62, math.MinInt, math.MaxInt} {
				if c, why := crc.Combine(a, b, n); c != 0 || why != api.ErrRange {
					t.Errorf("Combine(%08X, %08X, %d) = %08X, error %d; want 0, ErrRange", a, b, n, c, why)
				}
			}
		}
	}
}

// Promise 2.2: so many shifts and so many more are all of them, also where n is great.
func TestCombineInTwo(t *testing.T) {
	counts := []int{0, 1, 3, 1 << 16, 1<<24 + 5, 1 << 30, 1<<30 - 1}
	for _, a := range sums() {
		for _, m := range counts {
			for _, n := range counts {
				half, _ := crc.Combine(a, 0, m)
				c, _ := crc.Combine(half, 0, n)
				if whole, why := crc.Combine(a, 0, m+n); c != whole || why != api.OK {
					t.Errorf("Combine(%08X) by %d and %d: %08X, by both %08X, error %d", a, m, n, c, whole, why)
				}
			}
		}
	}
}

// Promise 2.5: the checksum of two parts is Combine of theirs.
func TestInParts(t *testing.T) {
	for _, size := range []int{0, 1, 2, 9, 100, 4096, 100000} {
		b := some(uint64(size), size)
		for _, i := range []int{0, 1, size / 3, size / 2, size - 1, size} {
			if i < 0 || i > size {
				continue
			}
			c, why := crc.Combine(crc.Of(b[:i]), crc.Of(b[i:]), size-i)
			if c != slow(b) || why != api.OK {
				t.Errorf("%d bytes cut at %d: %08X, error %d; want %08X", size, i, c, why, slow(b))
			}
			if c := crc.Update(crc.Of(b[:i]), b[i:]); c != slow(b) {
				t.Errorf("%d bytes cut at %d: Update %08X; want %08X", size, i, c, slow(b))
			}
		}
	}
}

// flipped is b with the bits of run turned about from bit at on.
func flipped(b []byte, at int, run uint32) []byte {
	b = bytes.Clone(b)
	for i := range 32 {
		if run>>i&1 == 1 && at+i < 8*len(b) {
			b[(at+i)/8] ^= 1 << ((at + i) % 8)
		}
	}
	return b
}

// Promise 2.6: one bit, and runs of up to 32 bits.
func TestItTells(t *testing.T) {
	r := rand.New(rand.NewPCG(7, 7))
	for _, size := range []int{1, 4, 5, 64} {
		b := some(3, size)
		sum := crc.Of(b)
		for at := range 8 * size {
			runs := []uint32{1, 3, 5, math.MaxUint32, 0x80000001, 0xEDB88320 | 1, 0xDB710641}
			for range 40 {
				runs = append(runs, r.Uint32()>>r.IntN(32)|1)
			}
			for _, run := range runs {
				if crc.Of(flipped(b, at, run)) == sum {
					t.Fatalf("%d bytes: the run %08X at bit %d does not tell", size, run, at)
				}
			}
		}
	}
}

// Promise 2.3: Seal.
func TestSeal(t *testing.T) {
	cases := []struct {
		b    []byte
		want []byte
	}{
		{nil, []byte{0, 0, 0, 0}},
		{[]byte{}, []byte{0, 0, 0, 0}},
		{[]byte("123456789"), []byte("123456789\x26\x39\xF4\xCB")},
		{[]byte{0}, []byte{0, 0x8D, 0xEF, 0x02, 0xD2}},
	}
	for _, c := range cases {
		if s := crc.Seal(c.b); !bytes.Equal(s, c.want) {
			t.Errorf("Seal(%x) = %x; want %x", c.b, s, c.want)
		}
	}
}

// Promise 2.3: Open of what is none, with nothing beside the error (P2).
func TestOpenWrong(t *testing.T) {
	cases := [][]byte{
		nil,
		{},
		{0},
		{0, 0},
		{0, 0, 0},
		{0, 0, 0, 1},
		{1, 0, 0, 0},
		{0, 0, 0, 0, 0},
		[]byte("123456789"),
		[]byte("123456789\xCB\xF4\x39\x26"),
		[]byte("123456789\x26\x39\xF4"),
		[]byte("123456789\x26\x39\xF4\xCB\x00"),
		[]byte("23456789\x26\x39\xF4\xCB"),
	}
	for _, b := range cases {
		if s, why := crc.Open(b); len(s) != 0 || why != api.ErrCode {
			t.Errorf("Open(%x) = %x, error %d; want ErrCode", b, s, why)
		}
	}
}

// Promise 2.7: Open of Seal is what there was, and no byte of it may be another one.
func TestThereAndBack(t *testing.T) {
	for size := range 40 {
		b := some(uint64(size), size)
		sealed := crc.Seal(b)
		if s, why := crc.Open(sealed); !bytes.Equal(s, b) || why != api.OK || len(sealed) != size+4 {
			t.Fatalf("Open(Seal(%x)) = %x, error %d", b, s, why)
		}
		for i := range sealed {
			for d := 1; d < 256; d++ {
				sealed[i] ^= byte(d)
				if s, why := crc.Open(sealed); len(s) != 0 || why != api.ErrCode {
					t.Fatalf("Open of %x, spoilt at %d: %x, error %d", sealed, i, s, why)
				}
				sealed[i] ^= byte(d)
			}
		}
	}
	b := some(9, api.SectorSize)
	if s, why := crc.Open(crc.Seal(b)); !bytes.Equal(s, b) || why != api.OK {
		t.Error("a sector, sealed and opened: error", why)
	}
}

// Promise 2.4, and P3: what is handed in stays, with the room behind it; answers are new each time.
func TestMemory(t *testing.T) {
	room := some(4, 64)
	was := bytes.Clone(room)
	b := room[:20]
	sealed := crc.Seal(b)
	again := crc.Seal(b)
	opened, _ := crc.Open(sealed)
	crc.Of(b)
	crc.Update(1, b)
	if !bytes.Equal(room, was) || !bytes.Equal(sealed, again) {
		t.Fatal("bytes that were handed in were changed, or Seal twice is not the same")
	}
	for i := range sealed {
		sealed[i] = 0
	}
	if !bytes.Equal(room, was) || !bytes.Equal(opened, was[:20]) || !bytes.Equal(again[:20], was[:20]) {
		t.Error("Seal's answer shares memory")
	}
	other, _ := crc.Open(again)
	for i := range opened {
		opened[i] = 0
	}
	if !bytes.Equal(room, was) || !bytes.Equal(again[:20], was[:20]) || !bytes.Equal(other, was[:20]) {
		t.Error("Open's answer shares memory")
	}
	long := append(opened, 1, 2, 3, 4)
	if long[20] != 1 || !bytes.Equal(again, crc.Seal(was[:20])) {
		t.Error("the room behind Open's answer is its argument's")
	}
	for i := range b {
		b[i] = 0
	}
	if !bytes.Equal(again, crc.Seal(was[:20])) {
		t.Error("Seal kept its argument")
	}
}
