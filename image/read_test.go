package image_test

import (
	"fmt"
	"math"
	"math/rand/v2"
	"slices"
	"strings"
	"testing"

	"lading/api"
	"lading/image"
	"lading/saga"
)

// isNone tells that a list is not the entries of a right state, and that State changes nothing of it.
func isNone(t *testing.T, name string, l []api.Pair) {
	t.Helper()
	before := slices.Clone(l)
	if s, why := image.State(l); !same(s, api.State{}) || why != api.ErrCode {
		t.Errorf("State of %s: %.300v, error %d", name, s, why)
	}
	if !slices.Equal(l, before) {
		t.Errorf("State of %s changes what it was handed", name)
	}
}

// Promise 18.1: ErrMany of one entry too many, entries or not; of just MaxList not.
func TestStateOfTooMany(t *testing.T) {
	for _, n := range []int{api.MaxList + 1, 3 * api.MaxList} {
		for _, x := range []api.Pair{{}, {Key: "k", Val: "v"}, {Key: key(0), Val: "\x00"}} {
			if s, why := image.State(slices.Repeat([]api.Pair{x}, n)); !same(s, api.State{}) || why != api.ErrMany {
				t.Errorf("State of %d: error %d", n, why)
			}
		}
	}
	isNone(t, "MaxList that are none", make([]api.Pair, api.MaxList))
	isNone(t, "MaxList times a limit", slices.Repeat([]api.Pair{{Key: key(0), Val: "\x00"}}, api.MaxList))
}

// Promise 18.1: no entries, keys that do not rise, places that are left out, and a state that is not right by what is missing.
func TestStateOfOtherLists(t *testing.T) {
	isNone(t, "nil", nil)
	isNone(t, "an empty list", []api.Pair{})
	l := entries(all())
	for i := range l {
		isNone(t, fmt.Sprint("one twice, at ", i), slices.Insert(slices.Clone(l), i, l[i]))
		isNone(t, fmt.Sprint("one twice, behind all, at ", i), append(slices.Clone(l), l[i]))
		for j := range i {
			k := slices.Clone(l)
			k[i], k[j] = k[j], k[i]
			isNone(t, fmt.Sprint("keys that fall, at ", i, j), k)
		}
		if i > 0 {
			k := slices.Clone(l)
			k[i].Key = k[i-1].Key
			isNone(t, fmt.Sprint("a key twice, at ", i), k)
		}
	}
	wanted := []int{0, 5, 6, 8, 10, 11, 13, 14, 18, 19, 22, 24, 26, 35, 36, 37, 38, 39} // the limit, postings ahead of others, orders with sagas, sagas
	for _, i := range wanted {
		isNone(t, fmt.Sprint("without the one at ", i), slices.Delete(slices.Clone(l), i, i+1))
	}
	slices.Reverse(l)
	isNone(t, "the other way round", l)
	isNone(t, "postings from 0 on", slices.Concat([]api.Pair{{Key: key(0), Val: "\x00"}, {Key: key(2, 0), Val: val(1, 1, 2, int64(5))}}))
	isNone(t, "postings from 2 on", slices.Concat([]api.Pair{{Key: key(0), Val: "\x00"}, {Key: key(2, 2), Val: val(1, 1, 2, int64(5))}}))
	isNone(t, "no limit", []api.Pair{{Key: key(2, 1), Val: val(1, 1, 2, int64(5))}})
	isNone(t, "limits alone", []api.Pair{{Key: key(0), Val: "\x00"}, {Key: key(0), Val: "\x00"}})
}

// Promise 18.1: an order, a shipment, a cell or a mark fewer is another right state, with what is left.
func TestStateOfFewer(t *testing.T) {
	s := all()
	s.Cells, s.Ships, s.Kept = s.Cells[1:], s.Ships[1:], s.Kept[:3]
	s.Orders = slices.Delete(s.Orders, 2, 4)
	if k, why := image.State(entries(s)); !same(k, s) || why != api.OK {
		t.Errorf("State: %v, error %d", k, why)
	}
}

// Promise 18.1: one entry that is of no row, or of none of its row's keys, put where it would stand.
func TestStateOfOtherKeys(t *testing.T) {
	for _, x := range []struct {
		at  int
		key string
	}{
		{0, ""}, {0, "\x00"}, {0, key(0)[:8]}, {0, key(0) + "\x00"}, {0, key("")}, {0, key(0, 0)}, {0, key(0, "")}, {0, key("0")}, {0, key(1)}, {0, key(7)}, {0, key(uint64(math.MaxUint64))}, {0, key(1 << 32)},
		{1, key(1)}, {1, key(1, 1)}, {1, key(1, 1, 1, 1)}, {1, key(1, 0, 1)}, {1, key(1, 1, 0)}, {1, key(1, 1, "")}, {1, key(1, "", 1)}, {1, key(1, 1, 1, "")}, {1, key(1, 1, 1) + "\x01"}, {1, key(1, 1, 1)[:26]}, {1, key(2, 1, 1)}, {1, key(7, 1, 1)},
		{4, key(1, api.MaxItems+1, 1)}, {4, key(1, api.MaxItems, api.MaxItems+1)}, {4, key(1, 1<<32+1, 1)}, {4, key(1, api.MaxItems, 1<<32+1)}, {4, key(1, uint64(math.MaxUint64), 1)}, {4, key(1, 1<<8+1, uint64(1<<63+1))}, {4, key(1, api.MaxItems, api.MaxItems, api.MaxItems)},
		{5, key(2)}, {5, key(2, 0)}, {5, key(2, "")}, {5, key(2, 1, 1)}, {5, key(2, 1, "")}, {17, key(2, 14)}, {17, key(2, 1<<32+13)}, {17, key(2, uint64(math.MaxUint64))}, {17, key(3, 0)},
		{18, key(3)}, {18, key(3, 0)}, {18, key(3, "")}, {18, key(3, 1, 1)}, {27, key(3, api.MaxOrders+1)}, {27, key(3, 1<<32+1)}, {27, key(3, uint64(math.MaxUint64))}, {27, key(3, uint64(1<<63+1))}, {27, key(3, api.MaxOrders, 0)},
		{28, key(4)}, {28, key(4, 0)}, {28, key(4, "")}, {28, key(4, 2, 1)}, {34, key(4, api.MaxOrders+1)}, {34, key(4, 1<<32+1)}, {34, key(4, uint64(math.MaxUint64))}, {34, key(4, api.MaxOrders, 0)},
		{35, key(5)}, {35, key(5, 0)}, {35, key(5, "")}, {35, key(5, 1, 1)}, {39, key(5, 6)}, {39, key(5, 1<<32+5)}, {39, key(5, uint64(math.MaxUint64))}, {39, key(5, 5, 0)},
		{40, key(6)}, {40, key(6, 0)}, {40, key(6, "")}, {40, key(6, "\x00", 0)}, {40, key(6, "\x00", "")}, {40, key(6, "\x00")[:12]}, {40, key(6, "a") + "\x00"}, {43, key(6, strings.Repeat("\xff", api.MaxMark+1))}, {43, key(6, strings.Repeat("\xff", 999))}, {43, key(6, strings.Repeat("\xff", 1<<20))}, {43, key(7)}, {43, key(7, "x")}, {43, key("x")}, {43, key(6, "z") + key(1, 2, 3, 4, 5, 6, 7, 8, 9, 10, 11, 12, 13, 14)}, {43, key(6, "z") + key(1, 2, 3, 4, 5, 6, 7, 8, 9, 10, 11, 12, 13, 14, 15, 16)}, {43, "\x03"}, {43, "\xff"},
	} {
		l := entries(all())
		l[x.at].Key = x.key
		isNone(t, fmt.Sprintf("the key %.60q at %d", x.key, x.at), l)
	}
}

// Promise 18.1: one value with numbers that are none, too few of them, others behind them, or out of their ranges.
func TestStateOfOtherValues(t *testing.T) {
	least, most, one := int64(math.MinInt64), int64(math.MaxInt64), int64(1)
	last := uint64(math.MaxUint64)
	lines := func(n int, l ...any) string { return val(int(api.StatusRejected), n) + val(l...) }
	for at, vals := range map[int][]string{
		0:  {val(api.MaxOrders + 1), val(9), val(0), val(last), val(uint64(1 << 32)), val(uint64(1<<63 + 300)), val(300, 0), "\xac\x82\x00", "\xac"},
		1:  {val(-one, one, one), val(one, -one, one), val(one, one, -one), val(int64(1<<50), one, one), val(most, most, int64(2)), val(least, least, one), val(one, one), val(one, one, one, one), val(int64(1<<50+1), int64(0), int64(0))},
		5:  {val(0, 1, 2, int64(81)), val(api.MaxOrders+1, 1, 2, int64(81)), val(9, 1, 2, int64(81)), val(last, 1, 2, int64(81)), val(8, 0, 2, int64(81)), val(8, 4, 2, int64(81)), val(8, 1, 4, int64(81)), val(8, 1, 1, int64(81)), val(8, 257, 2, int64(81)), val(8, 1, 258, int64(81)), val(8, 1, 2, int64(0)), val(8, 1, 2, -one), val(8, 1, 2, int64(1<<60+1)), val(8, 1, 2, least), val(8, 1, 2, most), val(8, 1, 2), val(8, 1, 2, int64(81), 0), val(8, 1, 2, int64(80)), val(uint64(1<<32+8), 1, 2, int64(81))},
		7:  {val(8, 3, 1, int64(82)), val(8, 3, 1, most), val(8, 3, 3, int64(81)), val(8, 3, 0, int64(81))},
		18: {val(0, 1, 1, 1, int64(2), int64(300)), val(8, 1, 1, 1, int64(2), int64(300)), val(2, 1, 1, 1, int64(2), int64(300)), val(257, 1, 1, 1, int64(2), int64(300)), val(1, 1, 1, 1, int64(2)), val(1, 1, 1, 1, int64(2), int64(300), 0), val(1, 0), val(1), val(5, 1, 1, 1, int64(2), int64(300))},
		20: {lines(0), lines(0, 1, 1, one, one), lines(2, 1, 1, one, one), lines(1, 1, 1, one, one, 1, 1, one, one), lines(1, 0, 1, one, one), lines(1, 1, 0, one, one), lines(1, api.MaxItems+1, 1, one, one), lines(1, 1, api.MaxItems+1, one, one), lines(1, uint64(1<<32+1), 1, one, one), lines(1, last, 1, one, one), lines(1, 1, last, one, one), lines(1, 1, 1, int64(0), one), lines(1, 1, 1, int64(api.MaxQty+1), one), lines(1, 1, 1, one, int64(0)), lines(1, 1, 1, one, int64(api.MaxUnit+1)), lines(1, 1, 1, -one, -one), lines(1, 1, 1, least, least), lines(2, 1, 1, int64(api.MaxQty), int64(api.MaxUnit), 1, 1, one, one), val(2, last) + val(1, 1, one, one), val(2, uint64(1<<63)) + val(1, 1, one, one), lines(17) + strings.Repeat(val(1, 1, one, one), 17), lines(16) + strings.Repeat(val(1, 1, int64(api.MaxQty), int64(api.MaxUnit)), 16), lines(90) + strings.Repeat(val(1, 1, one, one), 90), lines(1<<20) + strings.Repeat(val(1, 1, one, one), 1<<20)},
		28: {val(0), val(7), val(255), val(257), val(last), val(1, 0), "\x81\x00"},
		35: {val(0, 1, 3, 0), val(4, 1, 3, 0), val(1, 1, 3, 0), val(9, 1, 3, 0), val(api.MaxOrders+1, 1, 3, 0), val(last, 1, 3, 0), val(uint64(1<<32+2), 1, 3, 0), val(2, 0, 3, 0), val(2, 2, 3, 1), val(2, 3, 2, 0), val(2, 4, 3, 0), val(2, 257, 3, 0), val(2, 1, 5, 0), val(2, 1, 6, 0), val(2, 1, last, 0), val(2, 1, uint64(1<<32+3), 0), val(2, 1, 5, 1), val(2, 1, 0, 1), val(2, 1, 3, 2), val(2, 1, 3, 256), val(2, 1, 3, 257), val(2, 1, 3, last), val(2, 1, 3), val(2, 1, 3, 0, 0)},
		38: {val(5, 2, 4, 0), val(5, 2, 0, 1), val(5, 2, 5, 1), val(5, 1, 4, 1), val(5, 2, 4, 2)},
		40: {val(16, 0, one), val(last, 0, one), val(uint64(1<<32), 0, one), val(0, 8, one), val(0, 255, one), val(0, 257, one), val(0, 0, -one), val(0, 0, least), val(0, 0), val(0, 0, one, 0), val(0), val(0, 0, one) + "\x80"},
	} {
		vals = append(vals, "", "\x80", "\xff\xff\xff\xff\xff\xff\xff\xff\xff\x02", strings.Repeat("\x80", 20), entries(all())[at].Val+"\x00", strings.Repeat("\x01", api.MaxValue), strings.Repeat("\x01", api.MaxValue+1), strings.Repeat("\x01", 1<<22))
		for _, v := range vals {
			l := entries(all())
			if v == l[at].Val {
				t.Errorf("the value %q at %d is none that is wrong", v, at)
			}
			l[at].Val = v
			isNone(t, fmt.Sprintf("the value %.60q at %d", v, at), l)
		}
	}
}

// Promise 18.5: entries with a byte or a number that is another one, one left out or put in, are either none of a right state, or read as a state whose entries they are.
func TestStateOfRandomLists(t *testing.T) {
	r := rand.New(rand.NewPCG(18, 5))
	read, none := 0, 0
	for range 30000 {
		l := entries(all())
		for range r.IntN(2) + 1 {
			l = anyChange(r, l)
		}
		s, why := image.State(l)
		if why == api.ErrCode {
			none++
			if !same(s, api.State{}) {
				t.Fatalf("State: %v beside an error", s)
			}
			continue
		}
		must(t, why)
		must(t, saga.Check(s))
		read++
		if k, why := image.Entries(s); !slices.Equal(k, l) || why != api.OK || !slices.Equal(entries(s), l) {
			t.Fatalf("State has read what it was not: %q", l)
		}
	}
	if read < 1000 || none < 1000 {
		t.Error("too few of a kind:", read, none)
	}
}

// anyChange is a list with one thing changed.
func anyChange(r *rand.Rand, l []api.Pair) []api.Pair {
	i := r.IntN(len(l))
	spoil := func(s string) string {
		b := []byte(s)
		at := r.IntN(len(b))
		b[at] = byte(int(b[at]) + r.IntN(5) - 2)
		return string(b)
	}
	switch r.IntN(4) {
	case 0:
		l[i].Key = spoil(l[i].Key)
	case 1, 2:
		l[i].Val = spoil(l[i].Val)
	case 3:
		if len(l) > 1 {
			l = slices.Delete(l, i, i+1)
		}
	}
	return l
}
