package journal_test

import (
	"bytes"
	"encoding/binary"
	"hash/crc32"
	"math"
	"math/rand/v2"
	"slices"
	"strings"
	"testing"

	"lading/api"
	"lading/journal"
)

// head is what stands ahead of a piece, each field to be spoilt on its own.
type head struct {
	mark       string
	own, start uint64
	count, len uint32
}

// sealed is a sector as the document words it, with its checksum right whatever the rest is.
func sealed(h head, rest []byte) []byte {
	b := []byte(h.mark)
	b = append(b, 0, 0, 0, 0)
	b = binary.LittleEndian.AppendUint64(b, h.own)
	b = binary.LittleEndian.AppendUint64(b, h.start)
	b = binary.LittleEndian.AppendUint32(b, h.count)
	b = binary.LittleEndian.AppendUint32(b, h.len)
	b = append(b, rest...)
	b = append(b, make([]byte, 4096-len(b))...)
	binary.LittleEndian.PutUint32(b[4:], crc32.ChecksumIEEE(b))
	return b
}

// framed are the sectors of a text, whether or not it is a batch's, as the document words them.
func framed(text []byte, s uint64) [][]byte {
	pieces := slices.Collect(slices.Chunk(text, 4064))
	var l [][]byte
	for i, piece := range pieces {
		l = append(l, sealed(head{"LDNG", s + uint64(i), s, uint32(len(pieces)), uint32(len(piece))}, piece))
	}
	return l
}

// text is that of a batch, as the document words it.
func text(records []string) []byte {
	b := binary.AppendUvarint(nil, uint64(len(records)))
	for _, r := range records {
		b = binary.AppendUvarint(b, uint64(len(r)))
		b = append(b, r...)
	}
	return b
}

// sized is a batch whose text has so many bytes; not each number of them can be had.
func sized(t *testing.T, size int) []string {
	t.Helper()
	var l []string
	for left := size - 1; left > 0; {
		n := min(left, 1000)
		if left > 1000 && left < 1100 {
			n = 500
		}
		r := n - 1
		if r > 127 {
			r = n - 2
		}
		l = append(l, strings.Repeat(string(rune('a'+len(l)%26)), r))
		left -= n
	}
	if got := len(text(l)); got != size {
		t.Fatalf("the batch has a text of %d bytes, not %d", got, size)
	}
	return l
}

// batches are lists of records of many forms.
func batches(t *testing.T) [][]string {
	t.Helper()
	long := strings.Repeat("\x00\xff\x80z", 1024)
	l := [][]string{nil, {}, {""}, {"", ""}, {"a"}, {"a", "b"}, {"\x00"}, {"LDNG", "\xff\xfe"}, {long}, {long, "", long, "x", long},
		{long[:127]}, {long[:128]}, {long[:1024]}, {long[:1025]}, make([]string, 127), make([]string, 128), make([]string, 4096)}
	for _, size := range []int{4063, 4064, 4065, 2*4064 - 1, 2 * 4064, 2*4064 + 1, 3 * 4064} {
		l = append(l, sized(t, size))
	}
	return l
}

// starts are numbers from which a batch may go on.
func starts() []uint64 {
	return []uint64{1, 2, 255, 256, 1<<32 - 1, 1 << 32, 1 << 61, 1<<62 - 1, 1 << 62}
}

func same(a, b [][]byte) bool { return slices.EqualFunc(a, b, bytes.Equal) }

// Promise 5.1: the chapter's example, byte for byte.
func TestFrameOfNothing(t *testing.T) {
	for _, records := range [][]string{nil, {}} {
		l, why := journal.Frame(records, 1)
		if len(l) != 1 || len(l[0]) != 4096 || why != api.OK {
			t.Fatalf("Frame of nothing: %d sectors, error %d", len(l), why)
		}
		want := "LDNG" + string(l[0][4:8]) + "\x01\x00\x00\x00\x00\x00\x00\x00" + "\x01\x00\x00\x00\x00\x00\x00\x00" + "\x01\x00\x00\x00" + "\x01\x00\x00\x00" + "\x00"
		if string(l[0]) != want+strings.Repeat("\x00", 4096-len(want)) {
			t.Errorf("Frame of nothing = %x", l[0][:40])
		}
		spare := bytes.Clone(l[0])
		clear(spare[4:8])
		if sum := binary.LittleEndian.Uint32(l[0][4:]); sum != crc32.ChecksumIEEE(spare) {
			t.Errorf("its checksum is %08X, want %08X", sum, crc32.ChecksumIEEE(spare))
		}
	}
}

// Promises 5.1 and 5.6: the sectors of batches, and what they are unframed as.
func TestFrameThereAndBack(t *testing.T) {
	for i, records := range batches(t) {
		for _, s := range starts() {
			l, why := journal.Frame(records, s)
			if !same(l, framed(text(records), s)) || why != api.OK {
				t.Fatalf("Frame of the batch %d from %d on: %d sectors, error %d", i, s, len(l), why)
			}
			back, why := journal.Unframe(l, s)
			if !slices.Equal(back, records) || why != api.OK {
				t.Fatalf("Unframe of the batch %d from %d on: %d records, error %d", i, s, len(back), why)
			}
		}
	}
}

// Promise 5.1: the greatest batch, in time that grows with its bytes.
func TestGreatestBatch(t *testing.T) {
	records := slices.Repeat([]string{strings.Repeat("r", api.MaxRecord)}, api.MaxList)
	l, why := journal.Frame(records, 9)
	if want := (2 + 4096*(2+4096) + 4063) / 4064; len(l) != want || why != api.OK {
		t.Fatalf("Frame: %d sectors, error %d, want %d", len(l), why, want)
	}
	if back, why := journal.Unframe(l, 9); !slices.Equal(back, records) || why != api.OK {
		t.Errorf("Unframe: %d records, error %d", len(back), why)
	}
}

// Promises 5.1, P2 and P3: what can't be framed, the error that is named first ahead, nothing beside it.
func TestFrameWrong(t *testing.T) {
	long := strings.Repeat("r", api.MaxRecord+1)
	many := make([]string, api.MaxList+1)
	manyLong := slices.Clone(many)
	manyLong[0] = long
	cases := []struct {
		name    string
		records []string
		s       uint64
		why     api.Errno
	}{
		{"too many", many, 1, api.ErrMany},
		{"too many, too long", manyLong, 1, api.ErrMany},
		{"too many, too long, from 0", manyLong, 0, api.ErrMany},
		{"too long", []string{long}, 1, api.ErrLong},
		{"too long at the end", []string{"", "a", long}, 1, api.ErrLong},
		{"too long, from 0", []string{long}, 0, api.ErrLong},
		{"too long, from beyond", []string{long}, 1<<62 + 1, api.ErrLong},
		{"from 0", []string{"a"}, 0, api.ErrRange},
		{"from beyond", []string{"a"}, 1<<62 + 1, api.ErrRange},
		{"from 2^63", nil, 1 << 63, api.ErrRange},
		{"from the last number", nil, math.MaxUint64, api.ErrRange},
	}
	for _, c := range cases {
		if l, why := journal.Frame(c.records, c.s); len(l) != 0 || why != c.why {
			t.Errorf("Frame, %s: %d sectors, error %d, want %d", c.name, len(l), why, c.why)
		}
	}
}

// noBatch wants ErrCode of Unframe, with nothing beside it.
func noBatch(t *testing.T, name string, l [][]byte, s uint64) {
	t.Helper()
	if records, why := journal.Unframe(l, s); len(records) != 0 || why != api.ErrCode {
		t.Errorf("Unframe, %s: %d records, error %d, want ErrCode", name, len(records), why)
	}
}

// Promise 5.1: numbers that may not be, ahead of whatever the sectors are; and other numbers than the batch's.
func TestUnframeFromElsewhere(t *testing.T) {
	good, _ := journal.Frame([]string{"a"}, 7)
	for _, s := range []uint64{0, 1<<62 + 1, 1 << 63, math.MaxUint64} {
		for _, l := range [][][]byte{nil, good, {nil}, framed(text([]string{"a"}), s)} {
			if records, why := journal.Unframe(l, s); len(records) != 0 || why != api.ErrRange {
				t.Errorf("Unframe from %d: %d records, error %d, want ErrRange", s, len(records), why)
			}
		}
	}
	for _, s := range []uint64{1, 6, 8, 7 + 1<<8, 7 + 1<<32, 1 << 62} {
		noBatch(t, "from another number", good, s)
	}
}

// Promise 5.6: with another byte anywhere a batch is none.
func TestAnotherByte(t *testing.T) {
	r := rand.New(rand.NewPCG(5, 6))
	for _, records := range [][]string{nil, {"a", "bc"}, sized(t, 4064), sized(t, 2*4064+77)} {
		l, _ := journal.Frame(records, 3)
		for _, b := range l {
			for at := range b {
				by := byte(1 + r.IntN(255))
				b[at] ^= by
				if got, why := journal.Unframe(l, 3); len(got) != 0 || why != api.ErrCode {
					t.Fatalf("the byte %d, changed by %d: %d records, error %d", at, by, len(got), why)
				}
				b[at] ^= by
			}
		}
		if _, why := journal.Unframe(l, 3); why != api.OK {
			t.Fatal("the batch itself: error", why)
		}
	}
}

// Promise 5.1: sectors whose checksum is right, but something else is not.
func TestWrongSectors(t *testing.T) {
	one := text([]string{"a"})
	right := head{"LDNG", 3, 3, 1, uint32(len(one))}
	if _, why := journal.Unframe([][]byte{sealed(right, one)}, 3); why != api.OK {
		t.Fatal("the right sector: error", why)
	}
	spoil := map[string]func(*head){
		"other letters":      func(h *head) { h.mark = "LDSB" },
		"no letters":         func(h *head) { h.mark = "\x00\x00\x00\x00" },
		"own number above":   func(h *head) { h.own++ },
		"own number below":   func(h *head) { h.own-- },
		"own number high":    func(h *head) { h.own += 1 << 56 },
		"start above":        func(h *head) { h.start++ },
		"start below":        func(h *head) { h.start-- },
		"start high":         func(h *head) { h.start += 1 << 56 },
		"both above":         func(h *head) { h.own, h.start = 4, 4 },
		"no sectors":         func(h *head) { h.count = 0 },
		"two sectors":        func(h *head) { h.count = 2 },
		"many sectors":       func(h *head) { h.count = 1<<24 + 1 },
		"no length":          func(h *head) { h.len = 0 },
		"shorter":            func(h *head) { h.len-- },
		"longer":             func(h *head) { h.len++ },
		"the whole sector":   func(h *head) { h.len = api.Payload },
		"beyond the sector":  func(h *head) { h.len = api.Payload + 1 },
		"far beyond":         func(h *head) { h.len = math.MaxUint32 },
		"length's high byte": func(h *head) { h.len += 1 << 24 },
	}
	for name, f := range spoil {
		h := right
		f(&h)
		noBatch(t, name, [][]byte{sealed(h, one)}, 3)
	}
	for _, at := range []int{len(one), len(one) + 1, 500, api.Payload - 1} {
		rest := make([]byte, at+1)
		copy(rest, one)
		rest[at] = 1
		noBatch(t, "a byte behind the piece", [][]byte{sealed(right, rest)}, 3)
	}
	noBatch(t, "a checksum that counts itself", [][]byte{selfSummed(sealed(right, one))}, 3)
}

// selfSummed is b with the checksum of b as it was, its old checksum counted in.
func selfSummed(b []byte) []byte {
	b = bytes.Clone(b)
	binary.LittleEndian.PutUint32(b[4:], crc32.ChecksumIEEE(b))
	return b
}

// Promise 5.1: pieces that are not cut as a batch's are, whatever text they come to.
func TestWrongPieces(t *testing.T) {
	whole := text(sized(t, 2*4064))
	cut := func(sizes ...int) [][]byte {
		var l [][]byte
		rest := whole
		for i, n := range sizes {
			l = append(l, sealed(head{"LDNG", 3 + uint64(i), 3, uint32(len(sizes)), uint32(n)}, rest[:n]))
			rest = rest[n:]
		}
		return l
	}
	if _, why := journal.Unframe(cut(4064, 4064), 3); why != api.OK {
		t.Fatal("the right pieces: error", why)
	}
	noBatch(t, "a first piece that is shorter", cut(4063, 4064, 1), 3)
	noBatch(t, "an empty piece ahead", cut(0, 4064, 4064), 3)
	noBatch(t, "an empty piece between", cut(4064, 0, 4064), 3)
	noBatch(t, "an empty piece behind", cut(4064, 4064, 0), 3)
	noBatch(t, "too few bytes", cut(4064, 4063), 3)
	noBatch(t, "one piece only", cut(4064), 3)
}

// Promise 5.1: other lists of sectors than the batch's, and sectors of other lengths.
func TestWrongLists(t *testing.T) {
	l, _ := journal.Frame(sized(t, 3*4064), 3)
	other, _ := journal.Frame([]string{"a"}, 6)
	big, _ := journal.Frame(sized(t, 2*4064), 3)
	cases := map[string][][]byte{
		"none":              {},
		"the first ones":    l[:2],
		"the last ones":     l[1:],
		"one more":          append(slices.Clone(l), other[0]),
		"one twice":         {l[0], l[1], l[1]},
		"two changed about": {l[1], l[0], l[2]},
		"one of another":    {l[0], big[1], l[2]},
		"noughts":           {make([]byte, api.SectorSize)},
		"no bytes":          {nil},
		"no bytes behind":   {l[0], l[1], {}},
		"a byte less":       {l[0], l[1], l[2][:4095]},
		"a byte more":       {l[0], l[1], append(slices.Clone(l[2]), 0)},
		"a sector of heads": {l[0][:32], l[1], l[2]},
		"less than a head":  {l[0][:20], l[1], l[2]},
	}
	for name, l := range cases {
		noBatch(t, name, l, 3)
	}
	noBatch(t, "nil", nil, 3)
	noBatch(t, "one of them, from its own number on", l[1:2], 4)
}

// Promise 5.1: sectors that are right one by one, and together no batch's text.
func TestWrongTexts(t *testing.T) {
	many := make([]string, api.MaxList+1)
	cases := map[string]string{
		"no number":                     "\x80",
		"a number in two forms":         "\x80\x00",
		"a number that is too great":    strings.Repeat("\xff", 9) + "\x02",
		"the greatest number":           strings.Repeat("\xff", 9) + "\x01",
		"a byte behind":                 "\x00\x00",
		"a record behind":               "\x01\x01a\x01b",
		"a record too few":              "\x02\x01a",
		"a record's length too few":     "\x01",
		"a record's length in two ways": "\x01\x81\x00a",
		"a record's length is none":     "\x01\xff",
		"a record's byte too few":       "\x01\x02a",
		"a record of very many":         "\x01" + strings.Repeat("\xff", 9) + "\x01a",
		"a record too long":             string(text([]string{strings.Repeat("r", api.MaxRecord+1)})),
		"too many records":              string(text(many)),
		"all noughts":                   strings.Repeat("\x00", 4064),
		"all ones":                      strings.Repeat("\xff", 4064*2),
	}
	for name, s := range cases {
		noBatch(t, name, framed([]byte(s), 3), 3)
	}
}

// Promises 5.5 and P3: what is handed in stays as it was, and answers share no memory.
func TestFrameMemory(t *testing.T) {
	records := sized(t, 2*4064)
	l, _ := journal.Frame(records, 3)
	again, _ := journal.Frame(records, 3)
	want := framed(text(records), 3)
	for i, b := range l {
		full := b[:cap(b)]
		for at := range full {
			full[at] = byte(i + 1)
		}
	}
	for i, b := range l {
		if !bytes.Equal(b, bytes.Repeat([]byte{byte(i + 1)}, len(b))) {
			t.Error("two sectors of one answer share memory")
		}
	}
	if !same(again, want) || !slices.Equal(records, sized(t, 2*4064)) {
		t.Error("Frame's answer shares memory")
	}
	back, _ := journal.Unframe(again, 3)
	if !same(again, want) {
		t.Error("Unframe changed what was handed in")
	}
	for _, b := range again {
		clear(b)
	}
	if !slices.Equal(back, records) {
		t.Error("Unframe's answer shares memory")
	}
}
