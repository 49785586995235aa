package image

import (
	"cmp"
	"maps"
	"slices"

	"lading/api"
	"lading/codec"
)

// keyParts is how many parts a key has at the most.
const keyParts = 3

// reader reads a value, number by number; of what is not there it reads noughts, and is wrong from then on.
type reader struct {
	rest  []byte
	wrong bool
}

func (r *reader) num() uint64 {
	n, rest, why := codec.ReadNum(r.rest)
	r.rest, r.wrong = rest, r.wrong || why != api.OK
	return n
}

func (r *reader) whole() int64 {
	n, rest, why := codec.ReadInt(r.rest)
	r.rest, r.wrong = rest, r.wrong || why != api.OK
	return n
}

// read is the state that entries tell, if they are entries at all; whether it is right, and just theirs, is not looked at.
func read(l []api.Pair) (api.State, bool) {
	var s api.State
	for _, x := range l {
		if len(x.Val) > api.MaxValue {
			return api.State{}, false
		}
		parts, why := codec.ReadKey([]byte(x.Key))
		if why != api.OK {
			return api.State{}, false
		}
		var key [keyParts]api.Part
		copy(key[:], parts)
		if !readEntry(&s, key, []byte(x.Val)) {
			return api.State{}, false
		}
	}
	s.Books.Pays = paysOf(s.Books.Postings)
	return s, true
}

// readEntry puts what an entry tells behind what a state has already.
func readEntry(s *api.State, key [keyParts]api.Part, val []byte) bool {
	r := &reader{rest: val}
	order := int(key[1].N)
	switch key[0].N {
	case kindLimit:
		s.Limit = int(r.num())
	case kindCell:
		c := api.Cell{Item: int(key[1].N), Ware: int(key[2].N), Free: r.whole(), Held: r.whole(), Out: r.whole()}
		c.All = c.Free + c.Held + c.Out
		s.Cells = append(s.Cells, c)
	case kindPosting:
		x := api.Posting{Order: int(r.num()), From: api.Account(r.num()), To: api.Account(r.num()), Amount: r.whole()}
		s.Books.Postings = append(s.Books.Postings, x)
	case kindOrder:
		s.Orders = append(s.Orders, readOrder(order, r))
	case kindShip:
		s.Ships = append(s.Ships, api.Shipment{Order: order, State: api.ShipState(r.num())})
	case kindSaga:
		x := api.Saga{Order: int(r.num()), Kind: api.SagaKind(r.num()), At: int(r.num()), Undoing: r.num() == 1}
		s.Sagas = append(s.Sagas, x)
	case kindKept:
		reply := api.Reply{Why: api.Errno(r.num()), Status: api.Status(r.num()), Amount: r.whole()}
		s.Kept = append(s.Kept, api.Kept{Mark: key[1].S, Reply: reply})
	default:
		return false
	}
	return !r.wrong
}

// readOrder has the order's price be the sum of its lines, as it goes round; of a right order it does not.
func readOrder(id int, r *reader) api.Order {
	o := api.Order{Id: id, Status: api.Status(r.num())}
	for n := r.num(); n > 0 && !r.wrong; n-- {
		x := api.Line{Item: int(r.num()), Ware: int(r.num()), Qty: r.whole(), Unit: r.whole()}
		o.Lines = append(o.Lines, x)
		o.Price += x.Qty * x.Unit
	}
	return o
}

// paysOf are the pays that postings come to, by rising orders.
func paysOf(postings []api.Posting) []api.Pay {
	pays := make(map[int]api.Pay)
	for _, x := range postings {
		p := pays[x.Order]
		p.Order = x.Order
		p.Open += moved(x, api.AccountHold)
		p.Captured += max(moved(x, api.AccountSales), 0)
		p.Refunded += max(-moved(x, api.AccountSales), 0)
		pays[x.Order] = p
	}
	l := slices.SortedFunc(maps.Values(pays), func(a, b api.Pay) int { return cmp.Compare(a.Order, b.Order) })
	return slices.DeleteFunc(l, func(p api.Pay) bool { return p == api.Pay{Order: p.Order} })
}

// moved is what a posting brings to an account; below 0, what it takes from there.
func moved(x api.Posting, a api.Account) int64 {
	switch a {
	case x.To:
		return x.Amount
	case x.From:
		return -x.Amount
	}
	return 0
}
