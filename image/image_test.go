package image_test

import (
	"encoding/binary"
	"fmt"
	"math"
	"slices"
	"strings"
	"testing"

	"lading/api"
	"lading/image"
	"lading/saga"
)

func must(t *testing.T, why api.Errno) {
	t.Helper()
	if why != api.OK {
		t.Fatal("error", why)
	}
}

func line(item, ware int, qty, unit int64) api.Line {
	return api.Line{Item: item, Ware: ware, Qty: qty, Unit: unit}
}

func cell(item, ware int, free, held, out int64) api.Cell {
	return api.Cell{Item: item, Ware: ware, Free: free, Held: held, Out: out, All: free + held + out}
}

func order(id int, price int64, s api.Status, lines ...api.Line) api.Order {
	return api.Order{Id: id, Lines: lines, Price: price, Status: s}
}

// posted are an order's postings of one amount: authorised, then captured, then refunded, as many of them as are asked for.
func posted(order int, amount int64, n int) []api.Posting {
	return []api.Posting{
		{Order: order, From: api.AccountCard, To: api.AccountHold, Amount: amount},
		{Order: order, From: api.AccountHold, To: api.AccountSales, Amount: amount},
		{Order: order, From: api.AccountSales, To: api.AccountCard, Amount: amount},
	}[:n]
}

// all is a state with something in each row of the table: orders of each status, sagas of each kind, on and back.
func all() api.State {
	return api.State{
		Limit: 300,
		Cells: []api.Cell{cell(1, 1, 20, 4, 0), cell(1, 2, 6, 5, 0), cell(2, 1, 2, 1, 6), cell(api.MaxItems, api.MaxItems, 0, 0, 1)},
		Books: api.Books{
			Pays:     []api.Pay{{Order: 2, Open: 350}, {Order: 4, Captured: 100}, {Order: 5, Captured: 35}, {Order: 7, Captured: 60}, {Order: 8, Captured: 81, Refunded: 81}, {Order: 9, Open: 1000}, {Order: api.MaxOrders, Captured: 1 << 40}},
			Postings: slices.Concat(posted(8, 81, 3), posted(4, 100, 2), posted(2, 350, 1), posted(7, 60, 2), posted(5, 35, 2), posted(api.MaxOrders, 1<<40, 2), posted(9, 1000, 1)),
		},
		Ships: []api.Shipment{{Order: 2, State: api.ShipBooked}, {Order: 3, State: api.ShipCancelled}, {Order: 4, State: api.ShipSent}, {Order: 5, State: api.ShipBooked}, {Order: 7, State: api.ShipLabelled}, {Order: 8, State: api.ShipBack}, {Order: api.MaxOrders, State: api.ShipThere}},
		Orders: []api.Order{
			order(1, 600, api.StatusOpen, line(1, 1, 2, 300)),
			order(2, 350, api.StatusOpen, line(1, 1, 3, 100), line(2, 1, 1, 50)),
			order(3, 10, api.StatusRejected, line(1, 1, 1, 10)),
			order(4, 100, api.StatusFulfilled, line(2, 1, 4, 25)),
			order(5, 35, api.StatusCancelling, line(1, 2, 5, 7)),
			order(6, 1, api.StatusCancelled, line(1, 2, 1, 1)),
			order(7, 60, api.StatusReturning, line(2, 1, 2, 30)),
			order(8, 81, api.StatusReturned, line(1, 1, 9, 9)),
			order(9, 1000, api.StatusOpen, line(1, 1, 1, 1000)),
			order(api.MaxOrders, 1<<40, api.StatusFulfilled, line(api.MaxItems, api.MaxItems, 1, 1<<40)),
		},
		Sagas: []api.Saga{
			{Order: 2, Kind: api.SagaCheckout, At: 3},
			{Order: 9, Kind: api.SagaCheckout, At: 2, Undoing: true},
			{Order: 7, Kind: api.SagaReturn, At: 1},
			{Order: 5, Kind: api.SagaCancel, At: 4, Undoing: true},
			{Order: 1, Kind: api.SagaCheckout},
		},
		Kept: []api.Kept{
			{Mark: "\x00", Reply: api.Reply{Status: api.StatusOpen, Amount: 600}},
			{Mark: "again", Reply: api.Reply{Why: api.ErrType}},
			{Mark: "b", Reply: api.Reply{Status: api.StatusReturned, Amount: math.MaxInt64}},
			{Mark: strings.Repeat("\xff", api.MaxMark)},
		},
	}
}

// rights are states that are right: with nothing, with something in each row, and at the ends of what may be.
func rights() map[string]api.State {
	var cells []api.Cell
	for i := range api.MaxList {
		cells = append(cells, cell(i/api.MaxItems+1, i%api.MaxItems+1, 1, 2, 3))
	}
	var kept []api.Kept
	for i := range api.MaxList {
		kept = append(kept, api.Kept{Mark: fmt.Sprintf("m%05d", i), Reply: api.Reply{Amount: int64(i)}})
	}
	many := api.State{Limit: api.MaxOrders}
	for i := range api.MaxOrders {
		many.Orders = append(many.Orders, order(i+1, 60, api.StatusOpen, line(1, 1, 2, 30)))
		many.Sagas = append(many.Sagas, api.Saga{Order: api.MaxOrders - i, Kind: api.SagaCheckout})
	}
	var voided []api.Posting
	for range api.MaxEvents / 2 {
		voided = append(voided, posted(7, 5, 1)[0], api.Posting{Order: 7, From: api.AccountHold, To: api.AccountCard, Amount: 5})
	}
	return map[string]api.State{
		"nothing":                    {},
		"empty lists":                {Cells: []api.Cell{}, Books: api.Books{Pays: []api.Pay{}, Postings: []api.Posting{}}, Ships: []api.Shipment{}, Orders: []api.Order{}, Sagas: []api.Saga{}, Kept: []api.Kept{}},
		"a limit":                    {Limit: 9},
		"the greatest limit":         {Limit: api.MaxOrders},
		"of each":                    all(),
		"just as many cells":         {Cells: cells[:api.MaxList-1]},
		"one cell too many":          {Cells: cells},
		"just as many marks":         {Kept: kept[:api.MaxList-1]},
		"one mark too many":          {Kept: kept},
		"just as many postings":      {Books: api.Books{Pays: []api.Pay{{Order: 7, Open: 5}}, Postings: voided[:api.MaxList-1]}},
		"as many postings as may be": {Books: api.Books{Postings: voided}},
		"as many orders as may be":   many,
		"cells at their ends":        {Cells: []api.Cell{cell(1, 1, 0, 0, 0), cell(1, api.MaxItems, 1<<50, 0, 0), cell(api.MaxItems, 1, 0, 1<<50, 0), cell(api.MaxItems, api.MaxItems, 1<<50-2, 1, 1)}},
		"postings at their ends":     {Books: api.Books{Pays: []api.Pay{{Order: 1, Captured: 1 << 60, Refunded: 1 << 60}, {Order: api.MaxOrders, Open: 1}}, Postings: append(posted(1, 1<<60, 3), posted(api.MaxOrders, 1, 1)...)}},
		"postings of every way": {Books: api.Books{Pays: []api.Pay{{Order: 1, Open: 2, Captured: 7, Refunded: 2}, {Order: 3, Captured: 4}}, Postings: []api.Posting{
			{Order: 1, From: api.AccountCard, To: api.AccountSales, Amount: 7}, {Order: 3, From: api.AccountCard, To: api.AccountSales, Amount: 4}, {Order: 1, From: api.AccountSales, To: api.AccountHold, Amount: 2}}}},
		"the longest order": {Limit: 1, Orders: []api.Order{order(1, 1<<60, api.StatusRejected, slices.Repeat([]api.Line{line(api.MaxItems, api.MaxItems, 1<<16, 1<<40)}, api.MaxLines)...)}},
		"orders at their ends": {Limit: 2, Orders: []api.Order{
			order(1, 1<<60, api.StatusRejected, line(1, 1, api.MaxQty, api.MaxUnit)),
			order(api.MaxOrders, 1, api.StatusReturned, line(api.MaxItems, 1, api.MaxQty, 0), line(1, api.MaxItems, 1, 1))}},
		"shipments at their ends": {Ships: []api.Shipment{{Order: 1, State: api.ShipBooked}, {Order: api.MaxOrders, State: api.ShipBack}}},
		"marks of noughts":        {Kept: []api.Kept{{Mark: "\x00"}, {Mark: "\x00\x00"}, {Mark: "\x00\x01"}, {Mark: "\x00\xff"}, {Mark: strings.Repeat("\x01\x00", api.MaxMark/2)}, {Mark: "a"}, {Mark: "a\x00"}, {Mark: "ab"}}},
		"the longest mark":        {Kept: []api.Kept{{Mark: strings.Repeat("\x00", api.MaxMark), Reply: api.Reply{Why: api.ErrType, Status: api.StatusReturned, Amount: math.MaxInt64}}}},
	}
}

// notRight are states that are not, of each of their lists.
func notRight() map[string]api.State {
	l := map[string]api.State{}
	for name, change := range map[string]func(*api.State){
		"a limit below 0":       func(s *api.State) { s.Limit = -1 },
		"a limit above":         func(s *api.State) { s.Limit = api.MaxOrders + 1 },
		"too many orders":       func(s *api.State) { s.Limit = 9 },
		"a cell":                func(s *api.State) { s.Cells[0].All++ },
		"cells that fall":       func(s *api.State) { s.Cells[0], s.Cells[1] = s.Cells[1], s.Cells[0] },
		"a pay":                 func(s *api.State) { s.Books.Pays[0].Open++ },
		"no pays":               func(s *api.State) { s.Books.Pays = nil },
		"a posting":             func(s *api.State) { s.Books.Postings[0].To = api.AccountCount },
		"a shipment":            func(s *api.State) { s.Ships[0].State = api.ShipNone },
		"a price":               func(s *api.State) { s.Orders[0].Price++ },
		"no lines":              func(s *api.State) { s.Orders[0].Lines = nil },
		"a status":              func(s *api.State) { s.Orders[0].Status = api.StatusReturned },
		"Ids that fall":         func(s *api.State) { s.Orders[2], s.Orders[3] = s.Orders[3], s.Orders[2] },
		"a saga that is over":   func(s *api.State) { s.Sagas[0].At = 5 },
		"one saga too few":      func(s *api.State) { s.Sagas = s.Sagas[1:] },
		"a saga twice":          func(s *api.State) { s.Sagas = append(s.Sagas, s.Sagas[0]) },
		"an empty mark":         func(s *api.State) { s.Kept[0].Mark = "" },
		"a mark too long":       func(s *api.State) { s.Kept[3].Mark += "a" },
		"a mark far too long":   func(s *api.State) { s.Kept[3].Mark += strings.Repeat("a", 999) },
		"a reply":               func(s *api.State) { s.Kept[0].Reply.Amount = -1 },
		"a saga of At below 0":  func(s *api.State) { s.Sagas[0].At = -1 },
		"an order of Id 0":      func(s *api.State) { s.Orders[0].Id = 0 },
		"a cell of item -1":     func(s *api.State) { s.Cells[0].Item = -1 },
		"a shipment of order 0": func(s *api.State) { s.Ships[0].Order = 0 },
	} {
		s := all()
		change(&s)
		l[name] = s
	}
	return l
}

func sameOrder(a, b api.Order) bool {
	return a.Id == b.Id && a.Price == b.Price && a.Status == b.Status && slices.Equal(a.Lines, b.Lines)
}

// same tells whether two states are one, nil and empty lists being alike.
func same(a, b api.State) bool {
	return a.Limit == b.Limit && slices.Equal(a.Cells, b.Cells) && slices.Equal(a.Books.Pays, b.Books.Pays) && slices.Equal(a.Books.Postings, b.Books.Postings) &&
		slices.Equal(a.Ships, b.Ships) && slices.EqualFunc(a.Orders, b.Orders, sameOrder) && slices.Equal(a.Sagas, b.Sagas) && slices.Equal(a.Kept, b.Kept)
}

// clone is a state in other memory.
func clone(s api.State) api.State {
	s.Cells, s.Ships, s.Sagas, s.Kept = slices.Clone(s.Cells), slices.Clone(s.Ships), slices.Clone(s.Sagas), slices.Clone(s.Kept)
	s.Books = api.Books{Pays: slices.Clone(s.Books.Pays), Postings: slices.Clone(s.Books.Postings)}
	s.Orders = slices.Clone(s.Orders)
	for i := range s.Orders {
		s.Orders[i].Lines = slices.Clone(s.Orders[i].Lines)
	}
	return s
}

// key is the bytes of parts, numbers and texts, as chapter 3 has them.
func key(parts ...any) string {
	var b []byte
	for _, p := range parts {
		switch x := p.(type) {
		case int:
			b = binary.BigEndian.AppendUint64(append(b, 1), uint64(x))
		case uint64:
			b = binary.BigEndian.AppendUint64(append(b, 1), x)
		case string:
			b = append(b, 2)
			b = append(b, strings.ReplaceAll(x, "\x00", "\x00\xff")...)
			b = append(b, 0, 1)
		}
	}
	return string(b)
}

// val is the bytes of numbers (int, uint64) and of whole numbers (int64), as chapter 3 has them.
func val(numbers ...any) string {
	var b []byte
	for _, n := range numbers {
		switch x := n.(type) {
		case int:
			b = binary.AppendUvarint(b, uint64(x))
		case uint64:
			b = binary.AppendUvarint(b, x)
		case int64:
			b = binary.AppendVarint(b, x)
		}
	}
	return string(b)
}

// entries are those of a state by the chapter's table, row by row.
func entries(s api.State) []api.Pair {
	l := []api.Pair{{Key: key(0), Val: val(s.Limit)}}
	put := func(key, val string) { l = append(l, api.Pair{Key: key, Val: val}) }
	for _, c := range s.Cells {
		put(key(1, c.Item, c.Ware), val(c.Free, c.Held, c.Out))
	}
	for i, x := range s.Books.Postings {
		put(key(2, i+1), val(x.Order, int(x.From), int(x.To), x.Amount))
	}
	for _, o := range s.Orders {
		v := val(int(o.Status), len(o.Lines))
		for _, x := range o.Lines {
			v += val(x.Item, x.Ware, x.Qty, x.Unit)
		}
		put(key(3, o.Id), v)
	}
	for _, x := range s.Ships {
		put(key(4, x.Order), val(int(x.State)))
	}
	for i, x := range s.Sagas {
		back := 0
		if x.Undoing {
			back = 1
		}
		put(key(5, i+1), val(x.Order, int(x.Kind), x.At, back))
	}
	for _, x := range s.Kept {
		put(key(6, x.Mark), val(int(x.Reply.Why), int(x.Reply.Status), x.Reply.Amount))
	}
	return l
}

// Promises 18.1 and 18.3, by the chapter's example.
func TestExample(t *testing.T) {
	s, why := saga.New(9)
	must(t, why)
	l, why := image.Entries(s)
	if !slices.Equal(l, []api.Pair{{Key: "\x01\x00\x00\x00\x00\x00\x00\x00\x00", Val: "\x09"}}) || why != api.OK {
		t.Errorf("Entries: %q, error %d", l, why)
	}
	if n, why := image.Most(s); n != 1 || why != api.OK {
		t.Error("Most of nothing:", n, why)
	}
	s, _, why = saga.Ask(s, api.Ask{Kind: api.AskCheckout, Order: 1, Lines: []api.Line{line(1, 1, 2, 300)}})
	must(t, why)
	l, why = image.Entries(s)
	must(t, why)
	if n, why := image.Most(s); len(l) != 3 || n != 3+1+3 || why != api.OK {
		t.Error("a checkout:", len(l), n, why)
	}
}

// Promise 18.1: the bytes of an entry of each row.
func TestBytes(t *testing.T) {
	l, why := image.Entries(all())
	must(t, why)
	for at, want := range map[int]api.Pair{
		0:  {Key: "\x01\x00\x00\x00\x00\x00\x00\x00\x00", Val: "\xac\x02"},
		1:  {Key: "\x01\x00\x00\x00\x00\x00\x00\x00\x01\x01\x00\x00\x00\x00\x00\x00\x00\x01\x01\x00\x00\x00\x00\x00\x00\x00\x01", Val: "\x28\x08\x00"},
		4:  {Key: "\x01\x00\x00\x00\x00\x00\x00\x00\x01\x01\x00\x00\x00\x00\x00\x00\x04\x00\x01\x00\x00\x00\x00\x00\x00\x04\x00", Val: "\x00\x00\x02"},
		5:  {Key: "\x01\x00\x00\x00\x00\x00\x00\x00\x02\x01\x00\x00\x00\x00\x00\x00\x00\x01", Val: "\x08\x01\x02\xa2\x01"},
		17: {Key: "\x01\x00\x00\x00\x00\x00\x00\x00\x02\x01\x00\x00\x00\x00\x00\x00\x00\x0d", Val: "\x09\x01\x02\xd0\x0f"},
		18: {Key: "\x01\x00\x00\x00\x00\x00\x00\x00\x03\x01\x00\x00\x00\x00\x00\x00\x00\x01", Val: "\x01\x01\x01\x01\x04\xd8\x04"},
		19: {Key: "\x01\x00\x00\x00\x00\x00\x00\x00\x03\x01\x00\x00\x00\x00\x00\x00\x00\x02", Val: "\x01\x02\x01\x01\x06\xc8\x01\x02\x01\x02\x64"},
		28: {Key: "\x01\x00\x00\x00\x00\x00\x00\x00\x04\x01\x00\x00\x00\x00\x00\x00\x00\x02", Val: "\x01"},
		34: {Key: "\x01\x00\x00\x00\x00\x00\x00\x00\x04\x01\x00\x00\x00\x00\x00\x00\x04\x00", Val: "\x03"},
		35: {Key: "\x01\x00\x00\x00\x00\x00\x00\x00\x05\x01\x00\x00\x00\x00\x00\x00\x00\x01", Val: "\x02\x01\x03\x00"},
		36: {Key: "\x01\x00\x00\x00\x00\x00\x00\x00\x05\x01\x00\x00\x00\x00\x00\x00\x00\x02", Val: "\x09\x01\x02\x01"},
		40: {Key: "\x01\x00\x00\x00\x00\x00\x00\x00\x06\x02\x00\xff\x00\x01", Val: "\x00\x01\xb0\x09"},
		41: {Key: "\x01\x00\x00\x00\x00\x00\x00\x00\x06\x02again\x00\x01", Val: "\x0f\x00\x00"},
	} {
		if at >= len(l) || l[at] != want {
			t.Errorf("the entry at %d: %q, and not %q", at, l[min(at, len(l)-1)], want)
		}
	}
	if len(l) != 44 {
		t.Error("entries:", len(l))
	}
}

// Promises 18.1 and 18.5: the entries of each right state are those of the table, by rising keys; State reads the same state from them, or says ErrMany.
func TestThereAndBack(t *testing.T) {
	for name, s := range rights() {
		must(t, saga.Check(s))
		before := clone(s)
		l, why := image.Entries(s)
		if !slices.Equal(l, entries(s)) || why != api.OK {
			t.Errorf("Entries of %s: %.400q, error %d", name, l, why)
		}
		if !same(s, before) {
			t.Errorf("Entries of %s changes what it was handed", name)
		}
		for i := 1; i < len(l); i++ {
			if l[i-1].Key >= l[i].Key {
				t.Errorf("Entries of %s: keys at %d do not rise", name, i)
			}
		}
		want, refusal := s, api.OK
		if len(l) > api.MaxList {
			want, refusal = api.State{}, api.ErrMany
		}
		read := slices.Clone(l)
		if k, why := image.State(read); !same(k, want) || why != refusal {
			t.Errorf("State of the entries of %s: error %d, and not %d", name, why, refusal)
		}
		if !slices.Equal(read, l) {
			t.Errorf("State of %s changes what it was handed", name)
		}
	}
}

// Promises 18.1 and 18.3: of a state that is not right both are ErrState, with nothing beside it.
func TestNotRight(t *testing.T) {
	for name, s := range notRight() {
		before := clone(s)
		if l, why := image.Entries(s); len(l) != 0 || why != api.ErrState {
			t.Errorf("Entries of %s: %d, error %d", name, len(l), why)
		}
		if n, why := image.Most(s); n != 0 || why != api.ErrState {
			t.Errorf("Most of %s: %d, error %d", name, n, why)
		}
		if !same(s, before) {
			t.Errorf("%s has been changed", name)
		}
	}
}

// Promise 18.3: for each saga one more without a shipment, and as many as postings are fewer than three.
func TestMost(t *testing.T) {
	for name, x := range map[string]struct {
		s    api.State
		want int
	}{
		"nothing":           {api.State{}, 1},
		"of each":           {all(), 44 + 0 + 2 + 1 + 2 + 0 + 1 + 0 + 1 + 1 + 3}, // of the orders 2, 9, 7, 5, 1: shipments, postings
		"as many as can":    {rights()["as many orders as may be"], 1 + 2*api.MaxOrders + 4*api.MaxOrders},
		"without a saga":    {rights()["as many postings as may be"], 1 + api.MaxEvents},
		"more than MaxList": {rights()["one cell too many"], 1 + api.MaxList},
	} {
		before := clone(x.s)
		if n, why := image.Most(x.s); n != x.want || why != api.OK || !same(x.s, before) {
			t.Errorf("Most of %s: %d, error %d, and not %d", name, n, why, x.want)
		}
	}
	for postings, want := range []int{3, 2, 1, 0, 0, 0} {
		for ships := range 2 {
			s := api.State{Limit: 1, Orders: []api.Order{order(3, 60, api.StatusOpen, line(1, 1, 2, 30))}, Sagas: []api.Saga{{Order: 3, Kind: api.SagaCheckout, At: 1}}}
			s.Books.Postings = append(posted(3, 5, 3), posted(3, 5, 3)...)[:postings]
			s.Books.Postings = append(s.Books.Postings, posted(2, 5, 3)...)
			s.Books.Pays = append([]api.Pay{{Order: 2, Captured: 5, Refunded: 5}}, []api.Pay{{}, {Order: 3, Open: 5}, {Order: 3, Captured: 5}, {Order: 3, Captured: 5, Refunded: 5}, {Order: 3, Open: 5, Captured: 5, Refunded: 5}, {Order: 3, Captured: 10, Refunded: 5}}[postings])
			if postings == 0 {
				s.Books.Pays = s.Books.Pays[:1]
			}
			s.Ships = []api.Shipment{{Order: 2, State: api.ShipSent}, {Order: 3, State: api.ShipBooked}}[:ships+1]
			if n, why := image.Most(s); n != len(entries(s))+want+1-ships || why != api.OK {
				t.Errorf("Most with %d postings and %d shipments: %d, error %d, and not %d", postings, ships, n, why, len(entries(s))+want+1-ships)
			}
		}
	}
}
