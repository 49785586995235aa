package codec_test

import (
	"bytes"
	"cmp"
	"encoding/binary"
	"math"
	"math/rand/v2"
	"slices"
	"strings"
	"testing"

	"lading/api"
	"lading/codec"
)

func num(n uint64) api.Part  { return api.Part{Kind: api.PartNum, N: n} }
func text(s string) api.Part { return api.Part{Kind: api.PartText, S: s} }

// keyBytes is the bytes of parts, as the document words them.
func keyBytes(parts []api.Part) []byte {
	var b []byte
	for _, p := range parts {
		if p.Kind == api.PartNum {
			b = binary.BigEndian.AppendUint64(append(b, 1), p.N)
			continue
		}
		b = append(b, 2)
		b = append(b, strings.ReplaceAll(p.S, "\x00", "\x00\xff")...)
		b = append(b, 0, 1)
	}
	return b
}

// order is how parts stand, as the document words it.
func order(p, q []api.Part) int {
	return slices.CompareFunc(p, q, func(a, b api.Part) int {
		return cmp.Or(cmp.Compare(a.Kind, b.Kind), cmp.Compare(a.N, b.N), bytes.Compare([]byte(a.S), []byte(b.S)))
	})
}

// someKeys are parts whose bytes are easily mistaken for one another, the same ones each time.
func someKeys() [][]api.Part {
	l := []api.Part{num(0), num(1), num(255), num(256), num(1 << 32), num(math.MaxUint64), num(1 << 63), text(""), text("a"), text("b"), text("ab"), text("\x00"), text("\x00\x00"), text("\x00\x01"), text("\x00\xff"), text("\x01"), text("a\x00"), text("a\x00\x01"), text("a\x01"), text("\xff"), text("\xff\xff"), text("\x02")}
	keys := [][]api.Part{nil}
	for _, p := range l {
		keys = append(keys, []api.Part{p})
		for _, q := range l {
			keys = append(keys, []api.Part{p, q})
		}
	}
	r := rand.New(rand.NewPCG(4, 1))
	for range 300 {
		var k []api.Part
		for range r.IntN(api.MaxParts) {
			k = append(k, l[r.IntN(len(l))])
		}
		keys = append(keys, k)
	}
	return keys
}

// Promise 3.2: the chapter's examples.
func TestKeyExamples(t *testing.T) {
	if b, why := codec.Key([]api.Part{text("a")}); string(b) != "\x02a\x00\x01" || why != api.OK {
		t.Errorf("Key of the text a: %x, error %d", b, why)
	}
	if b, why := codec.Key([]api.Part{num(1)}); string(b) != "\x01\x00\x00\x00\x00\x00\x00\x00\x01" || why != api.OK {
		t.Errorf("Key of the number 1: %x, error %d", b, why)
	}
	if b, why := codec.Key(nil); len(b) != 0 || why != api.OK {
		t.Errorf("Key of no parts: %x, error %d", b, why)
	}
	if p, why := codec.ReadKey(nil); len(p) != 0 || why != api.OK {
		t.Errorf("ReadKey of no bytes: %v, error %d", p, why)
	}
}

// Promises 3.2 and 3.5: keys there and back.
func TestKeysThereAndBack(t *testing.T) {
	for _, k := range someKeys() {
		b, why := codec.Key(k)
		if !bytes.Equal(b, keyBytes(k)) || why != api.OK {
			t.Fatalf("Key(%v) = %x, error %d", k, b, why)
		}
		if p, why := codec.ReadKey(b); !slices.Equal(p, k) || why != api.OK {
			t.Fatalf("ReadKey of %v = %v, error %d", k, p, why)
		}
	}
}

// Promises 3.6 and 3.7: keys' bytes stand as their parts do, and none of as many parts begins another one.
func TestKeysInOrder(t *testing.T) {
	keys := someKeys()
	coded := make([][]byte, len(keys))
	for i, k := range keys {
		coded[i], _ = codec.Key(k)
	}
	for i, p := range keys {
		for j, q := range keys {
			if got, want := bytes.Compare(coded[i], coded[j]), order(p, q); got != want {
				t.Fatalf("%v and %v stand as %d, want %d", p, q, got, want)
			}
			if len(p) == len(q) && bytes.HasPrefix(coded[i], coded[j]) && !slices.Equal(p, q) {
				t.Fatalf("%v begins with %v", p, q)
			}
		}
	}
}

// Promises 3.2 and P3: the errors of Key, the one that is named first ahead of the others.
func TestKeyErrors(t *testing.T) {
	none := api.Part{}
	tooLong := text(strings.Repeat("a", api.MaxKey))
	many := slices.Repeat([]api.Part{num(1)}, api.MaxParts+1)
	cases := []struct {
		parts []api.Part
		why   api.Errno
	}{
		{slices.Repeat([]api.Part{num(1)}, api.MaxParts), api.OK},
		{slices.Repeat([]api.Part{text("")}, api.MaxParts), api.OK},
		{many, api.ErrMany},
		{slices.Repeat([]api.Part{none}, api.MaxParts+1), api.ErrMany},
		{slices.Repeat([]api.Part{tooLong}, api.MaxParts+1), api.ErrMany},
		{[]api.Part{none}, api.ErrType},
		{[]api.Part{num(1), text("a"), none}, api.ErrType},
		{[]api.Part{{Kind: api.PartText + 1}}, api.ErrType},
		{[]api.Part{{Kind: 255, N: 1, S: "a"}}, api.ErrType},
		{[]api.Part{{Kind: api.PartNum, N: 1, S: "a"}}, api.ErrType},
		{[]api.Part{{Kind: api.PartNum, S: "\x00"}}, api.ErrType},
		{[]api.Part{{Kind: api.PartText, N: 1, S: "a"}}, api.ErrType},
		{[]api.Part{{Kind: api.PartText, N: 1}}, api.ErrType},
		{[]api.Part{{Kind: api.PartNone, N: 1}}, api.ErrType},
		{[]api.Part{tooLong, none}, api.ErrType},
		{[]api.Part{tooLong}, api.ErrLong},
		{[]api.Part{tooLong, num(1)}, api.ErrLong},
		{[]api.Part{text(strings.Repeat("a", api.MaxKey-3))}, api.OK},
		{[]api.Part{text(strings.Repeat("a", api.MaxKey-2))}, api.ErrLong},
		{[]api.Part{text(strings.Repeat("\x00", 126))}, api.OK},
		{[]api.Part{text(strings.Repeat("\x00", 126) + "a")}, api.OK},
		{[]api.Part{text(strings.Repeat("\x00", 127))}, api.ErrLong},
		{[]api.Part{num(1), text(strings.Repeat("a", api.MaxKey-12))}, api.OK},
		{[]api.Part{num(1), text(strings.Repeat("a", api.MaxKey-11))}, api.ErrLong},
		{[]api.Part{text(strings.Repeat("a", 1<<20))}, api.ErrLong},
	}
	for i, c := range cases {
		want := keyBytes(c.parts)
		if c.why != api.OK {
			want = nil
		}
		if b, why := codec.Key(c.parts); !bytes.Equal(b, want) || why != c.why {
			t.Errorf("case %d: Key = %x, error %d, want error %d", i, b, why, c.why)
		}
	}
}

// Promises 3.2 and P3: the errors of ReadKey, the one that is named first ahead of the others.
func TestReadKeyErrors(t *testing.T) {
	full := keyBytes([]api.Part{text(strings.Repeat("a", api.MaxKey-3))})
	parts := keyBytes(slices.Repeat([]api.Part{text("")}, api.MaxParts))
	many := keyBytes(slices.Repeat([]api.Part{text("")}, api.MaxParts+1))
	most := keyBytes(slices.Repeat([]api.Part{text("")}, api.MaxKey/3))
	cases := []struct {
		b   []byte
		why api.Errno
	}{
		{full, api.OK},
		{parts, api.OK},
		{append(bytes.Clone(full), 2), api.ErrLong},
		{keyBytes(slices.Repeat([]api.Part{text("")}, api.MaxKey)), api.ErrLong},
		{make([]byte, api.MaxKey+1), api.ErrLong},
		{make([]byte, api.MaxKey), api.ErrCode},
		{many, api.ErrMany},
		{most, api.ErrMany},
		{append(bytes.Clone(most), 2), api.ErrCode},
		{append(bytes.Clone(many), 1), api.ErrCode},
		{append(bytes.Clone(many), 0), api.ErrCode},
		{append(bytes.Clone(parts), 3), api.ErrCode},
		{[]byte("\x01"), api.ErrCode},
		{[]byte("\x01\x00\x00\x00\x00\x00\x00\x00"), api.ErrCode},
		{[]byte("\x01\x00\x00\x00\x00\x00\x00\x00\x01\x01"), api.ErrCode},
		{[]byte("\x02"), api.ErrCode},
		{[]byte("\x02\x00"), api.ErrCode},
		{[]byte("\x02a\x00"), api.ErrCode},
		{[]byte("\x02a\x00\xff"), api.ErrCode},
		{[]byte("\x02a\x00\x00\x01"), api.ErrCode},
		{[]byte("\x02a\x00\x02\x00\x01"), api.ErrCode},
		{[]byte("\x02a\x00\xfe\x00\x01"), api.ErrCode},
		{[]byte("\x00"), api.ErrCode},
		{[]byte("\x03a\x00\x01"), api.ErrCode},
		{[]byte("\xff"), api.ErrCode},
	}
	for i, c := range cases {
		p, why := codec.ReadKey(c.b)
		if why != c.why || why != api.OK && len(p) != 0 {
			t.Errorf("case %d: ReadKey(%x) = %v, error %d, want %d", i, c.b, p, why, c.why)
		}
		if again, _ := codec.Key(p); why == api.OK && !bytes.Equal(again, c.b) {
			t.Errorf("case %d: ReadKey(%x) is written as %x", i, c.b, again)
		}
	}
}

// Promises 3.2 and 3.5: of all short bytes just those of keys are read, and as the parts that have them.
func TestKeysReadOneWay(t *testing.T) {
	const most = 7
	letters := []byte{0, 1, 2, 255, 'a'}
	keys := map[string][]api.Part{}
	var grow func(k []api.Part)
	grow = func(k []api.Part) {
		b := keyBytes(k)
		if len(b) > most {
			return
		}
		keys[string(b)] = k
		words(letters, most-3-len(b), func(w []byte) { grow(append(slices.Clone(k), text(string(w)))) })
	}
	grow(nil)
	words(letters, most, func(b []byte) {
		want, ok := keys[string(b)]
		p, why := codec.ReadKey(b)
		if ok && (!slices.Equal(p, want) || why != api.OK) {
			t.Fatalf("ReadKey(%x) = %v, error %d, want %v", b, p, why, want)
		}
		if !ok && (len(p) != 0 || why != api.ErrCode) {
			t.Fatalf("ReadKey(%x) = %v, error %d, but it is no key", b, p, why)
		}
	})
}

// Promise 3.4: keys and parts are new memory, and what is handed in stays as it was.
func TestKeysAreNewMemory(t *testing.T) {
	parts := []api.Part{num(7), text("a\x00")}
	first, _ := codec.Key(parts)
	second, _ := codec.Key(parts)
	want := bytes.Clone(first)
	clear(second)
	if !slices.Equal(parts, []api.Part{num(7), text("a\x00")}) || !bytes.Equal(first, want) {
		t.Errorf("Key changed %v, %x", parts, first)
	}
	got, _ := codec.ReadKey(first)
	other, _ := codec.ReadKey(first)
	clear(other)
	if !bytes.Equal(first, want) {
		t.Errorf("ReadKey changed what it read: %x", first)
	}
	clear(first)
	if !slices.Equal(got, parts) {
		t.Errorf("ReadKey's parts share memory: %v", got)
	}
}
