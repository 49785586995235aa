package image

import (
	"lading/api"
	"lading/codec"
)

// The kinds of entries, by which their keys begin.
const (
	kindLimit uint64 = iota
	kindCell
	kindPosting
	kindOrder
	kindShip
	kindSaga
	kindKept
)

// entriesOf are the entries of a right state, by rising keys, as the state's lists rise.
func entriesOf(s api.State) []api.Pair {
	l := []api.Pair{{Key: key(kindLimit), Val: nums(uint64(s.Limit))}}
	for _, c := range s.Cells {
		l = append(l, api.Pair{Key: key(kindCell, num(c.Item), num(c.Ware)), Val: wholes(c.Free, c.Held, c.Out)})
	}
	for i, x := range s.Books.Postings {
		l = append(l, api.Pair{Key: key(kindPosting, num(i+1)), Val: nums(uint64(x.Order), uint64(x.From), uint64(x.To)) + wholes(x.Amount)})
	}
	for _, o := range s.Orders {
		l = append(l, api.Pair{Key: key(kindOrder, num(o.Id)), Val: nums(uint64(o.Status), uint64(len(o.Lines))) + linesOf(o)})
	}
	for _, x := range s.Ships {
		l = append(l, api.Pair{Key: key(kindShip, num(x.Order)), Val: nums(uint64(x.State))})
	}
	for i, x := range s.Sagas {
		l = append(l, api.Pair{Key: key(kindSaga, num(i+1)), Val: nums(uint64(x.Order), uint64(x.Kind), uint64(x.At), bit(x.Undoing))})
	}
	for _, k := range s.Kept {
		l = append(l, api.Pair{Key: key(kindKept, text(k.Mark)), Val: nums(uint64(k.Reply.Why), uint64(k.Reply.Status)) + wholes(k.Reply.Amount)})
	}
	return l
}

func linesOf(o api.Order) string {
	val := ""
	for _, x := range o.Lines {
		val += nums(uint64(x.Item), uint64(x.Ware)) + wholes(x.Qty, x.Unit)
	}
	return val
}

// key is that of a kind and any number of parts. It is never one that codec refuses: no right state has a mark that is too long for it.
func key(kind uint64, parts ...api.Part) string {
	all := append([]api.Part{{Kind: api.PartNum, N: kind}}, parts...)
	b, _ := codec.Key(all)
	return string(b)
}

func num(n int) api.Part { return api.Part{Kind: api.PartNum, N: uint64(n)} }

func text(s string) api.Part { return api.Part{Kind: api.PartText, S: s} }

// nums are any number of numbers, one behind the other.
func nums(l ...uint64) string {
	var b []byte
	for _, n := range l {
		b = codec.Num(b, n)
	}
	return string(b)
}

// wholes are any number of whole numbers, one behind the other.
func wholes(l ...int64) string {
	var b []byte
	for _, n := range l {
		b = codec.Int(b, n)
	}
	return string(b)
}

func bit(is bool) uint64 {
	if is {
		return 1
	}
	return 0
}
