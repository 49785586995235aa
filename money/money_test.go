package money_test

import (
	"math"
	"math/big"
	"math/rand/v2"
	"slices"
	"testing"

	"lading/api"
	"lading/money"
)

// edges are numbers at which reckoning may go round.
func edges() []int64 {
	l := []int64{0, 1, 2, 3, 5, 7, 10, 99, 100, 101, 3037000499, 3037000500, 1 << 31, 1<<31 - 1, 1 << 32, 1<<32 + 1, 1 << 61, 1 << 62, 1<<62 + 1, math.MaxInt64 / 3, math.MaxInt64 - 1, math.MaxInt64}
	for _, n := range slices.Clone(l) {
		l = append(l, -n)
	}
	return append(l, math.MinInt64)
}

// some are numbers of all sizes, the same ones each time.
func some(seed uint64, count int) []int64 {
	r := rand.New(rand.NewPCG(seed, 1))
	l := make([]int64, count)
	for i := range l {
		l[i] = int64(r.Uint64()) >> r.IntN(64)
	}
	return l
}

// checked is what the document asks for where the true answer is n.
func checked(n *big.Int) (int64, api.Errno) {
	if !n.IsInt64() {
		return 0, api.ErrOver
	}
	return n.Int64(), api.OK
}

func many(n int64, count int) []int64 { return slices.Repeat([]int64{n}, count) }

// Promise 1.1, and that an error's number is 0 (P2).
func TestAddSubMul(t *testing.T) {
	calls := []struct {
		name string
		call func(a, b int64) (int64, api.Errno)
		true func(z, a, b *big.Int) *big.Int
	}{
		{"Add", money.Add, (*big.Int).Add},
		{"Sub", money.Sub, (*big.Int).Sub},
		{"Mul", money.Mul, (*big.Int).Mul},
	}
	l := append(edges(), some(1, 200)...)
	for _, c := range calls {
		for _, a := range l {
			for _, b := range l {
				n, why := c.call(a, b)
				want, wantWhy := checked(c.true(new(big.Int), big.NewInt(a), big.NewInt(b)))
				if n != want || why != wantWhy {
					t.Fatalf("%s(%d, %d) = %d, error %d; want %d, error %d", c.name, a, b, n, why, want, wantWhy)
				}
			}
		}
	}
}

// Promise 1.1: the ends of an int64, written out.
func TestReckonAtTheEnds(t *testing.T) {
	const low, high = math.MinInt64, math.MaxInt64
	cases := []struct {
		name string
		call func(a, b int64) (int64, api.Errno)
		a, b int64
		want int64
		why  api.Errno
	}{
		{"Add", money.Add, high, 1, 0, api.ErrOver},
		{"Add", money.Add, high, 0, high, api.OK},
		{"Add", money.Add, low, -1, 0, api.ErrOver},
		{"Add", money.Add, low, high, -1, api.OK},
		{"Add", money.Add, low, low, 0, api.ErrOver},
		{"Sub", money.Sub, 0, low, 0, api.ErrOver},
		{"Sub", money.Sub, -1, low, high, api.OK},
		{"Sub", money.Sub, low, 1, 0, api.ErrOver},
		{"Sub", money.Sub, low, low, 0, api.OK},
		{"Sub", money.Sub, high, -1, 0, api.ErrOver},
		{"Mul", money.Mul, low, -1, 0, api.ErrOver},
		{"Mul", money.Mul, -1, low, 0, api.ErrOver},
		{"Mul", money.Mul, low, 1, low, api.OK},
		{"Mul", money.Mul, low, 0, 0, api.OK},
		{"Mul", money.Mul, -1 << 62, 2, low, api.OK},
		{"Mul", money.Mul, 1 << 62, 2, 0, api.ErrOver},
		{"Mul", money.Mul, 1 << 32, 1 << 32, 0, api.ErrOver},
	}
	for _, c := range cases {
		if n, why := c.call(c.a, c.b); n != c.want || why != c.why {
			t.Errorf("%s(%d, %d) = %d, error %d; want %d, error %d", c.name, c.a, c.b, n, why, c.want, c.why)
		}
	}
}

// Promise 1.1: Sum.
func TestSum(t *testing.T) {
	const low, high = math.MinInt64, math.MaxInt64
	cases := []struct {
		name string
		l    []int64
		want int64
		why  api.Errno
	}{
		{"nil", nil, 0, api.OK},
		{"empty", []int64{}, 0, api.OK},
		{"one", []int64{-7}, -7, api.OK},
		{"there and back", []int64{high, 1, -1}, high, api.OK},
		{"down and back", []int64{low, -1, 1}, low, api.OK},
		{"one too many", []int64{high, 1}, 0, api.ErrOver},
		{"one too few", []int64{low, -1}, 0, api.ErrOver},
		{"four times round to nothing", many(1<<62, 4), 0, api.ErrOver},
		{"far below, round to nothing", many(low, 2), 0, api.ErrOver},
		{"MaxList", many(1, api.MaxList), api.MaxList, api.OK},
		{"MaxList of the most", many(high, api.MaxList), 0, api.ErrOver},
		{"MaxList of the least", many(low, api.MaxList), 0, api.ErrOver},
		{"half of each", append(many(high, api.MaxList/2), many(low, api.MaxList/2)...), -api.MaxList / 2, api.OK},
		{"more than MaxList", many(0, api.MaxList+1), 0, api.ErrMany},
		{"more than MaxList, and over", many(high, api.MaxList+1), 0, api.ErrMany},
	}
	for _, c := range cases {
		if n, why := money.Sum(c.l); n != c.want || why != c.why {
			t.Errorf("%s: %d, error %d; want %d, error %d", c.name, n, why, c.want, c.why)
		}
	}
}

// Promise 1.1: Sum, held against one without bounds.
func TestSumOfAny(t *testing.T) {
	for seed := range uint64(300) {
		l := some(seed, int(seed%50))
		sum := new(big.Int)
		for _, n := range l {
			sum.Add(sum, big.NewInt(n))
		}
		want, wantWhy := checked(sum)
		if n, why := money.Sum(l); n != want || why != wantWhy {
			t.Fatalf("Sum(%d) = %d, error %d; want %d, error %d", l, n, why, want, wantWhy)
		}
	}
}

func lines(count int, x api.Line) []api.Line { return slices.Repeat([]api.Line{x}, count) }

// Promise 1.2.
func TestTotal(t *testing.T) {
	most := api.Line{Qty: api.MaxQty, Unit: api.MaxUnit}
	// 7 times 2^60 and 2^60 - 2^20: what is left up to 2^63 - 1 is 2^20 - 1.
	nearly := append(lines(7, most), api.Line{Qty: api.MaxQty, Unit: api.MaxUnit - 1})
	cases := []struct {
		name string
		l    []api.Line
		want int64
		why  api.Errno
	}{
		{"nil", nil, 0, api.OK},
		{"two", []api.Line{{Qty: 2, Unit: 300}, {Qty: 1, Unit: 50}}, 650, api.OK},
		{"for nothing", []api.Line{{Qty: api.MaxQty}}, 0, api.OK},
		{"items and warehouses are no matter", []api.Line{{Item: -1, Ware: 1 << 40, Qty: 3, Unit: 4}}, 12, api.OK},
		{"MaxQty at MaxUnit", lines(1, most), 1 << 60, api.OK},
		{"MaxLines", lines(api.MaxLines, api.Line{Qty: 1, Unit: 1}), api.MaxLines, api.OK},
		{"more than MaxLines", lines(api.MaxLines+1, api.Line{Qty: 1, Unit: 1}), 0, api.ErrMany},
		{"more than MaxLines, and wrong", lines(api.MaxLines+1, api.Line{}), 0, api.ErrMany},
		{"Qty 0", []api.Line{{Qty: 0, Unit: 1}}, 0, api.ErrRange},
		{"Qty below 0", []api.Line{{Qty: -1, Unit: 1}}, 0, api.ErrRange},
		{"Qty above MaxQty", []api.Line{{Qty: api.MaxQty + 1, Unit: 1}}, 0, api.ErrRange},
		{"Unit below 0", []api.Line{{Qty: 1, Unit: -1}}, 0, api.ErrRange},
		{"Unit above MaxUnit", []api.Line{{Qty: 1, Unit: api.MaxUnit + 1}}, 0, api.ErrRange},
		{"the ends of an int64", []api.Line{{Qty: math.MinInt64, Unit: math.MaxInt64}}, 0, api.ErrRange},
		{"the second one is wrong", []api.Line{{Qty: 1, Unit: 1}, {Qty: 0, Unit: 1}}, 0, api.ErrRange},
		{"2^63 - 1", append(slices.Clone(nearly), api.Line{Qty: api.MaxQty - 1, Unit: 1}), math.MaxInt64, api.OK},
		{"2^63", append(slices.Clone(nearly), api.Line{Qty: api.MaxQty, Unit: 1}), 0, api.ErrOver},
		{"2^64", lines(api.MaxLines, most), 0, api.ErrOver},
		{"over, and the last one wrong", append(lines(api.MaxLines-1, most), api.Line{}), 0, api.ErrRange},
	}
	for _, c := range cases {
		if n, why := money.Total(c.l); n != c.want || why != c.why {
			t.Errorf("%s: %d, error %d; want %d, error %d", c.name, n, why, c.want, c.why)
		}
	}
}

// Promise 1.3.
func TestShare(t *testing.T) {
	const high = math.MaxInt64
	cases := []struct {
		name    string
		total   int64
		weights []int64
		want    []int64
		why     api.Errno
	}{
		{"thirds", 100, []int64{1, 1, 1}, []int64{34, 33, 33}, api.OK},
		{"no weight, no share", 10, []int64{0, 3}, []int64{0, 10}, api.OK},
		{"two are left, past weights of 0", 5, []int64{0, 1, 0, 1, 1}, []int64{0, 2, 0, 2, 1}, api.OK},
		{"what is left goes to the first ones, not to the nearest", 3, []int64{1, 9}, []int64{1, 2}, api.OK},
		{"nothing to share", 0, []int64{1, 0, 2}, []int64{0, 0, 0}, api.OK},
		{"all to one", high, []int64{1}, []int64{high}, api.OK},
		{"all to one of great weight", high, []int64{0, high}, []int64{0, high}, api.OK},
		{"great ones", high, []int64{high - 1, 1}, []int64{high - 1, 1}, api.OK},
		{"halves of the most", high, []int64{1, 1}, []int64{1 << 62, 1<<62 - 1}, api.OK},
		{"MaxList", api.MaxList + 1, many(1, api.MaxList), append([]int64{2}, many(1, api.MaxList-1)...), api.OK},
		{"more than MaxList", 1, many(1, api.MaxList+1), nil, api.ErrMany},
		{"more than MaxList, and wrong", -1, many(-1, api.MaxList+1), nil, api.ErrMany},
		{"total below 0", -1, []int64{1}, nil, api.ErrRange},
		{"total far below 0", math.MinInt64, []int64{1}, nil, api.ErrRange},
		{"no weights", 1, nil, nil, api.ErrRange},
		{"empty weights", 1, []int64{}, nil, api.ErrRange},
		{"none above 0", 1, []int64{0, 0}, nil, api.ErrRange},
		{"one below 0", 1, []int64{1, -1}, nil, api.ErrRange},
		{"weights over", 1, []int64{high, 1}, nil, api.ErrOver},
		{"weights over, and one below 0", 1, []int64{high, high, -1}, nil, api.ErrRange},
		{"weights over, that go round", 1, many(1<<62, 5), nil, api.ErrOver},
	}
	for _, c := range cases {
		if l, why := money.Share(c.total, c.weights); !slices.Equal(l, c.want) || why != c.why {
			t.Errorf("%s: %d, error %d; want %d, error %d", c.name, l, why, c.want, c.why)
		}
	}
}

// weightsOf are some weights whose sum is an int64; one is above 0.
func weightsOf(seed uint64) []int64 {
	r := rand.New(rand.NewPCG(seed, 2))
	l := make([]int64, 1+r.IntN(20))
	for i := range l {
		l[i] = r.Int64N(1<<58) >> r.IntN(60)
	}
	l[r.IntN(len(l))] = 1 + r.Int64N(1<<58)
	return l
}

// Promises 1.3 and 1.7: the rule, and what follows.
func TestShareOfAny(t *testing.T) {
	totals := []int64{0, 1, 2, 99, 1 << 40, math.MaxInt64 - 1, math.MaxInt64}
	for seed := range uint64(500) {
		weights := weightsOf(seed)
		all := new(big.Int)
		for _, w := range weights {
			all.Add(all, big.NewInt(w))
		}
		for _, total := range totals {
			shares, why := money.Share(total, weights)
			if why != api.OK || len(shares) != len(weights) {
				t.Fatalf("Share(%d, %d): %d, error %d", total, weights, shares, why)
			}
			sum, more := int64(0), true
			for i, w := range weights {
				part := new(big.Int).Mul(big.NewInt(total), big.NewInt(w))
				extra := shares[i] - part.Div(part, all).Int64()
				if extra < 0 || extra > 1 || w == 0 && shares[i] != 0 || w > 0 && extra == 1 && !more {
					t.Fatalf("Share(%d, %d): %d, wrong at %d", total, weights, shares, i)
				}
				if w > 0 {
					more = extra == 1
				}
				sum += shares[i]
			}
			if sum != total {
				t.Fatalf("Share(%d, %d): %d, sum %d", total, weights, shares, sum)
			}
		}
	}
}

// Promise 1.5, and P3: lists that are handed in stay, answers are new each time.
func TestMemory(t *testing.T) {
	l, was := []int64{3, 0, 4}, []int64{3, 0, 4}
	first, _ := money.Share(100, l)
	want := slices.Clone(first)
	second, _ := money.Share(100, l)
	if !slices.Equal(first, second) {
		t.Error("Share twice:", first, second)
	}
	for i := range first {
		first[i] = -1
	}
	if !slices.Equal(second, want) || !slices.Equal(l, was) {
		t.Error("Share: an answer shares memory", second, l)
	}
	for i := range l {
		l[i] = 9
	}
	if !slices.Equal(second, want) {
		t.Error("Share: an answer shares memory with its weights", second)
	}
	l = []int64{3, 0, 4}
	money.Sum(l)
	money.Share(-1, l)
	x := []api.Line{{Item: 1, Ware: 2, Qty: 3, Unit: 4}}
	money.Total(x)
	if !slices.Equal(l, was) || x[0] != (api.Line{Item: 1, Ware: 2, Qty: 3, Unit: 4}) {
		t.Error("an argument was changed:", l, x)
	}
}

// Promise 1.6: Add and Mul go both ways, Sub of Add is what there was.
func TestRing(t *testing.T) {
	l := append(edges(), some(3, 100)...)
	for _, a := range l {
		for _, b := range l {
			sum, why := money.Add(a, b)
			if other, otherWhy := money.Add(b, a); other != sum || otherWhy != why {
				t.Fatalf("Add of %d and %d is not that of %d and %d", a, b, b, a)
			}
			if back, backWhy := money.Sub(sum, b); why == api.OK && (back != a || backWhy != api.OK) {
				t.Fatalf("Sub(Add(%d, %d), %d) = %d, error %d", a, b, b, back, backWhy)
			}
			product, why := money.Mul(a, b)
			if other, otherWhy := money.Mul(b, a); other != product || otherWhy != why {
				t.Fatalf("Mul of %d and %d is not that of %d and %d", a, b, b, a)
			}
		}
	}
}

// Promise 1.6: Mul of a sum is the sum of the products.
func TestMulOfSum(t *testing.T) {
	l, held := append(edges(), some(4, 40)...), 0
	for _, a := range l {
		for _, b := range l {
			for _, c := range l {
				sum, why1 := money.Add(a, b)
				whole, why2 := money.Mul(sum, c)
				first, why3 := money.Mul(a, c)
				second, why4 := money.Mul(b, c)
				parts, why5 := money.Add(first, second)
				if why1|why2|why3|why4|why5 != api.OK {
					continue
				}
				held++
				if whole != parts {
					t.Fatalf("(%d + %d) times %d: %d, in parts %d", a, b, c, whole, parts)
				}
			}
		}
	}
	if held < 1000 {
		t.Error("only so many sums were there:", held)
	}
}
