package codec_test

import (
	"bytes"
	"math"
	"slices"
	"testing"

	"lading/api"
	"lading/codec"
)

func entry(key, val string) api.Entry { return api.Entry{Key: []byte(key), Val: []byte(val)} }

// sized is an entry of so many bytes.
func sized(key, val int) api.Entry {
	return api.Entry{Key: bytes.Repeat([]byte("k"), key), Val: bytes.Repeat([]byte("v"), val)}
}

// entriesBytes is the bytes of entries, as the document words them.
func entriesBytes(l []api.Entry) []byte {
	b := numBytes(uint64(len(l)))
	for _, e := range l {
		b = slices.Concat(b, numBytes(uint64(len(e.Key))), e.Key, numBytes(uint64(len(e.Val))), e.Val)
	}
	return b
}

func sameEntries(l, m []api.Entry) bool {
	return slices.EqualFunc(l, m, func(a, b api.Entry) bool { return bytes.Equal(a.Key, b.Key) && bytes.Equal(a.Val, b.Val) })
}

// Promises 3.3 and 3.5: entries there and back, in order, up to the ends of keys, values and lists.
func TestEntriesThereAndBack(t *testing.T) {
	lists := [][]api.Entry{
		nil,
		{},
		{{}},
		{entry("k", "v")},
		{entry("", "v"), entry("k", "")},
		{entry("b", "2"), entry("a", "1"), entry("b", "2")},
		{entry("\x00", "\xff\x80"), sized(127, 128), sized(128, 127)},
		{sized(api.MaxKey, api.MaxValue), sized(api.MaxKey, 0), sized(0, api.MaxValue)},
		slices.Repeat([]api.Entry{entry("k", "v")}, 127),
		slices.Repeat([]api.Entry{entry("k", "v")}, 128),
		slices.Repeat([]api.Entry{{}}, api.MaxList),
	}
	for i, l := range lists {
		b, why := codec.Entries(l)
		if !bytes.Equal(b, entriesBytes(l)) || why != api.OK {
			t.Fatalf("list %d: Entries = %x, error %d", i, b, why)
		}
		if got, why := codec.ReadEntries(b); !sameEntries(got, l) || why != api.OK {
			t.Fatalf("list %d: ReadEntries = %v, error %d", i, got, why)
		}
	}
}

// Promises 3.3 and P3: the errors of Entries, the one that is named first ahead of the other.
func TestEntriesErrors(t *testing.T) {
	cases := []struct {
		l   []api.Entry
		why api.Errno
	}{
		{slices.Repeat([]api.Entry{{}}, api.MaxList+1), api.ErrMany},
		{slices.Repeat([]api.Entry{sized(api.MaxKey+1, 0)}, api.MaxList+1), api.ErrMany},
		{[]api.Entry{sized(api.MaxKey+1, 0)}, api.ErrLong},
		{[]api.Entry{sized(0, api.MaxValue+1)}, api.ErrLong},
		{[]api.Entry{entry("k", "v"), sized(api.MaxKey, api.MaxValue), sized(api.MaxKey+1, 1)}, api.ErrLong},
		{[]api.Entry{entry("k", "v"), sized(api.MaxKey, api.MaxValue+1), entry("k", "v")}, api.ErrLong},
	}
	for i, c := range cases {
		if b, why := codec.Entries(c.l); len(b) != 0 || why != c.why {
			t.Errorf("case %d: Entries = %x, error %d, want %d", i, b, why, c.why)
		}
	}
}

// Promises 3.3, P2 and P3: the errors of ReadEntries, entry by entry, with nothing beside them.
func TestReadEntriesErrors(t *testing.T) {
	one := "\x01\x01k\x01v"
	longKey, longVal := string(numBytes(api.MaxKey+1)), string(numBytes(api.MaxValue+1))
	fullKey, fullVal := string(numBytes(api.MaxKey)), string(numBytes(api.MaxValue))
	huge := string(numBytes(math.MaxUint64))
	cases := []struct {
		b   string
		why api.Errno
	}{
		{"", api.ErrCode},
		{"\x80", api.ErrCode},
		{"\x80\x00", api.ErrCode},
		{string(numBytes(api.MaxList + 1)), api.ErrMany},
		{string(numBytes(api.MaxList)), api.ErrCode},
		{huge, api.ErrMany},
		{string(numBytes(math.MaxInt64 + 1)), api.ErrMany},
		{string(numBytes(1 << 32)), api.ErrMany},
		{"\x01", api.ErrCode},
		{"\x01\x80", api.ErrCode},
		{"\x01\x80\x00\x00", api.ErrCode},
		{"\x01\x01", api.ErrCode},
		{"\x01\x01k", api.ErrCode},
		{"\x01\x01k\x80", api.ErrCode},
		{"\x01\x01k\x81\x00v", api.ErrCode},
		{"\x01\x01k\x01", api.ErrCode},
		{"\x01\x02k", api.ErrCode},
		{one + "\x00", api.ErrCode},
		{one + one, api.ErrCode},
		{"\x00\x00", api.ErrCode},
		{"\x02\x01k\x01v", api.ErrCode},
		{"\x02\x01k\x01v\x01k\x02v", api.ErrCode},
		{"\x01" + longKey, api.ErrLong},
		{"\x01" + huge, api.ErrLong},
		{"\x01" + string(numBytes(1<<32)), api.ErrLong},
		{"\x01\x01k" + longVal, api.ErrLong},
		{"\x01\x01k" + huge, api.ErrLong},
		{"\x01\x01k" + string(numBytes(1<<32+1)) + "v", api.ErrLong},
		{"\x01" + fullKey, api.ErrCode},
		{"\x01\x01k" + fullVal, api.ErrCode},
		{"\x02\x80\x00" + longKey, api.ErrCode},
		{"\x02\x01k" + longVal + "\x80", api.ErrLong},
		{"\x02\x01k\x01v" + longKey, api.ErrLong},
		{"\x01\x01k" + longVal + string(make([]byte, api.MaxValue+2)), api.ErrLong},
		{"\x01" + longKey + string(make([]byte, api.MaxKey+2)), api.ErrLong},
	}
	for i, c := range cases {
		if l, why := codec.ReadEntries([]byte(c.b)); len(l) != 0 || why != c.why {
			t.Errorf("case %d: ReadEntries(%x) = %v, error %d, want %d", i, c.b, l, why, c.why)
		}
	}
}

// Promises 3.3 and 3.5: of all short bytes those that are read are written as what they were read from.
func TestEntriesReadOneWay(t *testing.T) {
	read := 0
	words([]byte{0, 1, 2, 3, 128, 'a'}, 7, func(b []byte) {
		l, why := codec.ReadEntries(b)
		if why != api.OK {
			return
		}
		read++
		if again, why := codec.Entries(l); !bytes.Equal(again, b) || why != api.OK {
			t.Fatalf("ReadEntries(%x) is written as %x, error %d", b, again, why)
		}
	})
	if read != shortLists(7) {
		t.Errorf("%d lists were read, want %d", read, shortLists(7))
	}
}

// shortLists counts the lists of at most three entries, whose bytes are 0, 1, 2, 3, 128 or a, that have up to most bytes.
func shortLists(most int) int {
	pow := func(n int) int { return int(math.Pow(6, float64(n))) }
	count := 0
	var grow func(entries, room, ways int)
	grow = func(entries, room, ways int) {
		count += ways
		if entries == 3 {
			return
		}
		for key := 0; key <= min(3, room-2); key++ {
			for val := 0; val <= min(3, room-2-key); val++ {
				grow(entries+1, room-2-key-val, ways*pow(key+val))
			}
		}
	}
	grow(0, most-1, 1)
	return count
}

// Promise 3.4: entries and their bytes are new memory, each list of its own, and what is handed in stays as it was.
func TestEntriesAreNewMemory(t *testing.T) {
	l := []api.Entry{entry("key", "val"), entry("kez", "vam")}
	want := entriesBytes(l)
	b, _ := codec.Entries(l)
	got, _ := codec.ReadEntries(b)
	for i := range got {
		others := slices.Clone(got)
		others[i] = api.Entry{}
		clear(got[i].Key)
		_ = append(got[i].Key, "!!!!!!"...)
		if string(got[i].Val) != string(l[i].Val) {
			t.Errorf("a key shares memory with its value: %q", got[i].Val)
		}
		clear(got[i].Val)
		_ = append(got[i].Val, "!!!!!!"...)
		for j, e := range others {
			if j > i && !sameEntries([]api.Entry{e}, l[j:j+1]) {
				t.Errorf("an entry shares memory with another one: %v", e)
			}
		}
	}
	if !bytes.Equal(b, want) || !bytes.Equal(entriesBytes(l), want) {
		t.Errorf("what was handed in is changed: %x, %v", b, l)
	}
	again, _ := codec.ReadEntries(b)
	clear(b)
	if !sameEntries(again, l) {
		t.Errorf("ReadEntries shares memory with what it read: %v", again)
	}
}
