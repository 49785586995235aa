package codec_test

import (
	"bytes"
	"encoding/binary"
	"math"
	"math/big"
	"math/rand/v2"
	"slices"
	"strings"
	"testing"

	"lading/api"
	"lading/codec"
)

// groups is the bytes of a number, as the document words them.
func groups(n *big.Int) []byte {
	var b []byte
	n = new(big.Int).Set(n)
	for {
		low := byte(new(big.Int).And(n, big.NewInt(127)).Uint64())
		n.Rsh(n, 7)
		if n.Sign() == 0 {
			return append(b, low)
		}
		b = append(b, low+128)
	}
}

func numBytes(n uint64) []byte { return groups(new(big.Int).SetUint64(n)) }

// intBytes is the bytes of a whole number, as the document words them.
func intBytes(n int64) []byte {
	twice := big.NewInt(n)
	twice.Lsh(twice, 1)
	if n < 0 {
		twice.Neg(twice)
		twice.Sub(twice, big.NewInt(1))
	}
	return groups(twice)
}

// nums are numbers at which a byte more begins, and some of all sizes, the same ones each time.
func nums() []uint64 {
	l := []uint64{0, 1, 2, 300, math.MaxInt64, math.MaxInt64 + 1, math.MaxUint64 - 1, math.MaxUint64}
	for shift := range 64 {
		l = append(l, 1<<shift-1, 1<<shift, 1<<shift+1)
	}
	r := rand.New(rand.NewPCG(3, 1))
	for range 500 {
		l = append(l, r.Uint64()>>r.IntN(64))
	}
	return l
}

// behinds are bytes that may stand behind what is read.
func behinds() [][]byte {
	return [][]byte{nil, {}, {0}, {128}, {1, 2, 3}, bytes.Repeat([]byte{255}, 20)}
}

// words calls yield with all byte strings of up to most letters.
func words(letters []byte, most int, yield func([]byte)) {
	var grow func(b []byte)
	grow = func(b []byte) {
		if len(b) > most {
			return
		}
		yield(slices.Clone(b))
		for _, c := range letters {
			grow(append(slices.Clone(b), c))
		}
	}
	grow(nil)
}

// Promise 3.1: the bytes of numbers, and the chapter's examples.
func TestNumWrites(t *testing.T) {
	if b := codec.Num(nil, 300); string(b) != "\xac\x02" {
		t.Errorf("Num(300) = %x", b)
	}
	if b := codec.Num(nil, 0); string(b) != "\x00" {
		t.Errorf("Num(0) = %x", b)
	}
	for _, n := range nums() {
		want := numBytes(n)
		if b := codec.Num(nil, n); !bytes.Equal(b, want) {
			t.Errorf("Num(%d) = %x, want %x", n, b, want)
		}
		if b := codec.Num([]byte("ahead"), n); !bytes.Equal(b, append([]byte("ahead"), want...)) {
			t.Errorf("Num(ahead, %d) = %x", n, b)
		}
	}
}

// Promise 3.1: the bytes of whole numbers, the ends of them among these, and the chapter's example.
func TestIntWrites(t *testing.T) {
	if b := codec.Int(nil, -1); string(b) != "\x01" {
		t.Errorf("Int(-1) = %x", b)
	}
	for _, u := range nums() {
		for _, n := range []int64{int64(u), -int64(u), ^int64(u)} {
			want := intBytes(n)
			if b := codec.Int([]byte{9}, n); !bytes.Equal(b, append([]byte{9}, want...)) {
				t.Errorf("Int(%d) = %x, want %x", n, b, want)
			}
		}
	}
	for n, size := range map[int64]int{0: 1, -64: 1, 63: 1, 64: 2, -65: 2, math.MinInt64: 10, math.MaxInt64: 10} {
		if b := codec.Int(nil, n); len(b) != size {
			t.Errorf("Int(%d) has %d bytes, want %d", n, len(b), size)
		}
	}
}

// Promise 3.1: the bytes of texts, those that can't be read again among these, and the chapter's example.
func TestTextWrites(t *testing.T) {
	if b := codec.Text(nil, "a"); string(b) != "\x01a" {
		t.Errorf("Text(a) = %x", b)
	}
	for _, size := range []int{0, 1, 127, 128, api.MaxText, api.MaxText + 1, 20000} {
		s := strings.Repeat("\x00\xff", size)[:size]
		want := "ahead" + string(numBytes(uint64(size))) + s
		if b := codec.Text([]byte("ahead"), s); string(b) != want {
			t.Errorf("Text of %d bytes = %x", size, b)
		}
	}
}

// Promises 3.1 and 3.5: what is written is read as what it was, with what is behind.
func TestNumsThereAndBack(t *testing.T) {
	for _, u := range nums() {
		for _, tail := range behinds() {
			n, rest, why := codec.ReadNum(append(codec.Num(nil, u), tail...))
			if n != u || !bytes.Equal(rest, tail) || why != api.OK {
				t.Errorf("ReadNum of %d, %x = %d, %x, error %d", u, tail, n, rest, why)
			}
			for _, i := range []int64{int64(u), ^int64(u)} {
				n, rest, why := codec.ReadInt(append(codec.Int(nil, i), tail...))
				if n != i || !bytes.Equal(rest, tail) || why != api.OK {
					t.Errorf("ReadInt of %d, %x = %d, %x, error %d", i, tail, n, rest, why)
				}
			}
		}
	}
}

// Promises 3.1 and 3.5: a text is read as what it was up to MaxText bytes, with what is behind.
func TestTextsThereAndBack(t *testing.T) {
	for _, size := range []int{0, 1, 2, 127, 128, 129, api.MaxText - 1, api.MaxText} {
		s := strings.Repeat("\x00\x80\xffz", size)[:size]
		for _, tail := range behinds() {
			got, rest, why := codec.ReadText(append(codec.Text(nil, s), tail...))
			if got != s || !bytes.Equal(rest, tail) || why != api.OK {
				t.Errorf("ReadText of %d bytes, %x: %d bytes, %x, error %d", size, tail, len(got), rest, why)
			}
		}
	}
}

// Promises 3.1 and P2: bytes that are no number's, with nothing beside the error.
func TestNoNums(t *testing.T) {
	nine := bytes.Repeat([]byte{0xff}, 9)
	cases := [][]byte{
		nil, {}, {0x80}, {0xff}, {0x80, 0x80}, {0x80, 0}, {0xff, 0}, {0x81, 0x80, 0},
		slices.Concat(nine, []byte{0}),
		slices.Concat(nine, []byte{2}),
		slices.Concat(nine, []byte{3}),
		slices.Concat(nine, []byte{0x7f}),
		slices.Concat(nine, []byte{0x80}),
		slices.Concat(nine, []byte{0x81}),
		slices.Concat(nine, []byte{0x81, 0}),
		slices.Concat(nine, []byte{0x81, 1}),
		slices.Concat(nine, []byte{0x80, 1}),
		nine,
		append(bytes.Repeat([]byte{0x80}, 9), 0),
		append(bytes.Repeat([]byte{0x80}, 9), 2),
		append(bytes.Repeat([]byte{0x80}, 10), 1),
		bytes.Repeat([]byte{0x80}, 30),
		bytes.Repeat([]byte{0xff}, 30),
	}
	for _, b := range cases {
		if n, rest, why := codec.ReadNum(b); n != 0 || len(rest) != 0 || why != api.ErrCode {
			t.Errorf("ReadNum(%x) = %d, %x, error %d", b, n, rest, why)
		}
		if n, rest, why := codec.ReadInt(b); n != 0 || len(rest) != 0 || why != api.ErrCode {
			t.Errorf("ReadInt(%x) = %d, %x, error %d", b, n, rest, why)
		}
		if s, rest, why := codec.ReadText(b); s != "" || len(rest) != 0 || why != api.ErrCode {
			t.Errorf("ReadText(%x) = %q, %x, error %d", b, s, rest, why)
		}
	}
	if n, rest, why := codec.ReadNum(append(nine, 1, 7)); n != math.MaxUint64 || string(rest) != "\x07" || why != api.OK {
		t.Errorf("ReadNum of the last number = %d, %x, error %d", n, rest, why)
	}
}

// readNum is what the document asks for: b begins with the bytes of a number, and those are as few as can be.
func readNum(b []byte) (uint64, int, bool) {
	n, size := binary.Uvarint(b)
	if size <= 0 || !bytes.Equal(b[:size], numBytes(n)) {
		return 0, 0, false
	}
	return n, size, true
}

// Promises 3.1 and 3.5: of all short bytes just those that begin with a number's are read, and written as what they were read from.
func TestNumsReadOneWay(t *testing.T) {
	letters := []byte{0, 1, 2, 0x7f, 0x80, 0x81, 0xff}
	starts := [][]byte{nil, bytes.Repeat([]byte{0x80}, 7), bytes.Repeat([]byte{0xff}, 7)}
	for _, start := range starts {
		words(letters, 4, func(w []byte) {
			b := slices.Concat(start, w)
			want, size, ok := readNum(b)
			n, rest, why := codec.ReadNum(b)
			if !ok {
				if n != 0 || len(rest) != 0 || why != api.ErrCode {
					t.Errorf("ReadNum(%x) = %d, %x, error %d", b, n, rest, why)
				}
				return
			}
			if n != want || !bytes.Equal(rest, b[size:]) || why != api.OK {
				t.Errorf("ReadNum(%x) = %d, %x, error %d, want %d", b, n, rest, why, want)
			}
			if again := append(codec.Num(nil, n), rest...); !bytes.Equal(again, b) {
				t.Errorf("ReadNum(%x) is written as %x", b, again)
			}
			i, rest, why := codec.ReadInt(b)
			if again := append(codec.Int(nil, i), rest...); !bytes.Equal(again, b) || why != api.OK {
				t.Errorf("ReadInt(%x) = %d, error %d, is written as %x", b, i, why, again)
			}
		})
	}
}

// Promises 3.1 and P2: a text that is too long, ahead of whether its bytes are there, and one whose bytes are not.
func TestNoTexts(t *testing.T) {
	cases := []struct {
		size uint64
		has  int
		why  api.Errno
	}{
		{api.MaxText + 1, 0, api.ErrLong},
		{api.MaxText + 1, api.MaxText, api.ErrLong},
		{api.MaxText + 1, api.MaxText + 1, api.ErrLong},
		{math.MaxInt64, 3, api.ErrLong},
		{math.MaxInt64 + 1, 3, api.ErrLong},
		{math.MaxUint64, 0, api.ErrLong},
		{1 << 32, 3, api.ErrLong},
		{api.MaxText, api.MaxText - 1, api.ErrCode},
		{api.MaxText, 0, api.ErrCode},
		{1, 0, api.ErrCode},
		{2, 1, api.ErrCode},
	}
	for _, c := range cases {
		b := append(numBytes(c.size), make([]byte, c.has)...)
		if s, rest, why := codec.ReadText(b); s != "" || len(rest) != 0 || why != c.why {
			t.Errorf("ReadText of %d bytes, %d there: %q, %x, error %d, want %d", c.size, c.has, s, rest, why, c.why)
		}
	}
}

// Promise 3.4: what is written stands in memory of its own, whatever room is behind what was handed in.
func TestWritesAreNewMemory(t *testing.T) {
	calls := map[string]func([]byte) []byte{
		"Num":  func(b []byte) []byte { return codec.Num(b, 300) },
		"Int":  func(b []byte) []byte { return codec.Int(b, -300) },
		"Text": func(b []byte) []byte { return codec.Text(b, "text") },
	}
	for name, call := range calls {
		for _, size := range []int{0, 3} {
			room := bytes.Repeat([]byte("#"), 64)
			first, second := call(room[:size]), call(room[:size])
			want := bytes.Clone(first)
			if string(room) != strings.Repeat("#", 64) {
				t.Errorf("%s wrote into what was handed in: %q", name, room)
			}
			for i := range second {
				second[i] = '!'
			}
			clear(room)
			_ = append(second[:1], "!!!!"...)
			if !bytes.Equal(first, want) {
				t.Errorf("%s shares memory: %q, want %q", name, first, want)
			}
		}
	}
}

// Promise 3.4: what is behind is new memory, and what is read stays as it was.
func TestReadsAreNewMemory(t *testing.T) {
	calls := map[string]func([]byte) []byte{
		"ReadNum":  func(b []byte) []byte { _, rest, _ := codec.ReadNum(b); return rest },
		"ReadInt":  func(b []byte) []byte { _, rest, _ := codec.ReadInt(b); return rest },
		"ReadText": func(b []byte) []byte { _, rest, _ := codec.ReadText(b); return rest },
	}
	for name, call := range calls {
		b := []byte("\x03abcdef....")[:8]
		first, second := call(b), call(b)
		want := bytes.Clone(first)
		clear(first)
		_ = append(first, "!!!!"...)
		if string(b[:cap(b)]) != "\x03abcdef...." {
			t.Errorf("%s hands out what it was given: %q", name, b[:cap(b)])
		}
		clear(b)
		if !bytes.Equal(second, want) {
			t.Errorf("%s shares memory: %q, want %q", name, second, want)
		}
	}
	b := []byte("\x03abc")
	s, _, _ := codec.ReadText(b)
	clear(b)
	if s != "abc" {
		t.Errorf("ReadText's text shares memory: %q", s)
	}
}
