package saga_test

import (
	"math"
	"slices"
	"strings"
	"testing"

	"lading/api"
	"lading/saga"
)

// rights are states that are right, at the ends of what may be.
func rights() map[string]api.State {
	with := func(s api.State, change func(*api.State)) api.State {
		change(&s)
		return s
	}
	var cells []api.Cell
	for i := range api.MaxList {
		cells = append(cells, cell(i/api.MaxItems+1, i%api.MaxItems+1, 1, 2, 3))
	}
	var voided []api.Posting
	for range api.MaxEvents / 2 {
		voided = append(voided, posted(7, 5, 1)[0], api.Posting{Order: 7, From: api.AccountHold, To: api.AccountCard, Amount: 5})
	}
	full := func(n int64) []api.Line { return []api.Line{line(1, 1, api.MaxQty, n)} }
	long := slices.Repeat([]api.Line{line(api.MaxItems, 1, 1, 0)}, api.MaxLines-1)
	l := map[string]api.State{
		"nothing":                    {},
		"empty lists":                {Cells: []api.Cell{}, Books: api.Books{Pays: []api.Pay{}, Postings: []api.Posting{}}, Ships: []api.Shipment{}, Orders: []api.Order{}, Sagas: []api.Saga{}, Kept: []api.Kept{}},
		"the greatest limit":         {Limit: api.MaxOrders},
		"of each":                    all(),
		"just as many as the limit":  with(all(), func(s *api.State) { s.Limit = len(s.Orders) }),
		"as many orders as may be":   manyOrders(api.MaxOrders),
		"as many marks as may be":    {Kept: marks(api.MaxList)},
		"as many cells as may be":    {Cells: cells},
		"as many postings as may be": {Books: api.Books{Postings: voided}},
		"the greatest price":         {Limit: 1, Orders: []api.Order{order(1, 1<<60, api.StatusRejected, full(1<<40)...)}},
		"the least price":            {Limit: 1, Orders: []api.Order{order(1, 1, api.StatusRejected, append(long, line(1, api.MaxItems, 1, 1))...)}},
		"the first and the last":     {Limit: 2, Orders: []api.Order{order(1, 5, api.StatusRejected, line(1, 1, 1, 5)), order(api.MaxOrders, 5, api.StatusRejected, line(1, 1, 1, 5))}},
		"no order of ships or pays":  {Books: api.Books{Pays: []api.Pay{{Order: 9, Open: 5}}, Postings: posted(9, 5, 1)}, Ships: []api.Shipment{{Order: 8, State: api.ShipBack}}},
		"a mark of one byte":         {Kept: []api.Kept{{Mark: "\x00"}}},
		"the longest marks":          {Kept: []api.Kept{{Mark: strings.Repeat("a", api.MaxMark)}, {Mark: strings.Repeat("b", api.MaxMark)}}},
		"the greatest reply":         {Kept: []api.Kept{{Mark: "a", Reply: api.Reply{Why: api.ErrType, Status: api.StatusReturned, Amount: math.MaxInt64}}}},
	}
	for _, x := range sagas() {
		l["a saga "+short(one(x))] = one(x)
	}
	for s := api.StatusOpen; s <= api.StatusReturned; s++ {
		if s != api.StatusOpen && s != api.StatusCancelling && s != api.StatusReturning {
			l["an order of a status "+string('0'+rune(s))] = api.State{Limit: 1, Orders: []api.Order{order(3, 5, s, line(1, 1, 1, 5))}}
		}
	}
	return l
}

// sagas are all that are right and not over, of an order.
func sagas() []api.Saga {
	var l []api.Saga
	for at := range 5 {
		l = append(l, api.Saga{Order: 3, Kind: api.SagaCheckout, At: at})
	}
	for at := 1; at < 5; at++ {
		l = append(l, api.Saga{Order: 3, Kind: api.SagaCheckout, At: at, Undoing: true}, api.Saga{Order: 3, Kind: api.SagaCancel, At: at, Undoing: true})
	}
	for at := range 3 {
		l = append(l, api.Saga{Order: 3, Kind: api.SagaReturn, At: at})
	}
	return l
}

// Promise 17.1: right states are OK.
func TestCheck(t *testing.T) {
	for name, s := range rights() {
		before := clone(s)
		if why := saga.Check(s); why != api.OK || !same(s, before) {
			t.Errorf("Check of %s: error %d", name, why)
		}
	}
}

// spoilt are states that are not right: each of them is all, or another right one, spoilt in one of the ways that the chapter names.
func spoilt() map[string]api.State {
	l := map[string]api.State{}
	put := func(name string, s api.State, change func(*api.State)) {
		s = clone(s)
		change(&s)
		l[name] = s
	}
	spoilLists(put)
	spoilOrders(put)
	spoilSagas(put)
	spoilKept(put)
	return l
}

// some are the numbers that a kind of few can be, and some that are none.
func some[K ~uint8]() []K { return append(every[K]()[:10], 128, 255) }

type putter func(name string, s api.State, change func(*api.State))

func spoilLists(put putter) {
	for name, limit := range map[string]int{"below 0": -1, "far below 0": math.MinInt, "above": api.MaxOrders + 1, "far above": math.MaxInt, "too few": 9, "none": 0} {
		put("a limit "+name, all(), func(s *api.State) { s.Limit = limit })
	}
	put("a limit below 0 of nothing", api.State{}, func(s *api.State) { s.Limit = -1 })
	put("a limit above of nothing", api.State{}, func(s *api.State) { s.Limit = api.MaxOrders + 1 })
	put("one order more than the limit", manyOrders(api.MaxOrders), func(s *api.State) { s.Limit-- })
	put("cells that fall", all(), func(s *api.State) { s.Cells[0], s.Cells[1] = s.Cells[1], s.Cells[0] })
	put("a cell twice", all(), func(s *api.State) { s.Cells[1] = s.Cells[0] })
	put("a cell of none", all(), func(s *api.State) { s.Cells[0].Item = 0 })
	put("a cell of less than nothing", all(), func(s *api.State) { s.Cells[0] = cell(1, 1, -1, 4, 0) })
	put("a cell that does not add up", all(), func(s *api.State) { s.Cells[2].All++ })
	put("a pay that is missing", all(), func(s *api.State) { s.Books.Pays = s.Books.Pays[1:] })
	put("a pay of none", all(), func(s *api.State) { s.Books.Pays = slices.Insert(s.Books.Pays, 0, api.Pay{Order: 1}) })
	put("a pay that is wrong", all(), func(s *api.State) { s.Books.Pays[3].Captured++ })
	put("a posting of no order", all(), func(s *api.State) { s.Books.Postings[0].Order = 0 })
	put("a posting from an account to it", all(), func(s *api.State) { s.Books.Postings[0].To = s.Books.Postings[0].From })
	put("postings without pays", all(), func(s *api.State) { s.Books.Pays = nil })
	put("pays without postings", all(), func(s *api.State) { s.Books.Postings = nil })
	put("shipments that fall", all(), func(s *api.State) { s.Ships[0], s.Ships[1] = s.Ships[1], s.Ships[0] })
	put("a shipment twice", all(), func(s *api.State) { s.Ships[1].Order = s.Ships[0].Order })
	put("a shipment of no order", all(), func(s *api.State) { s.Ships[0].Order = 0 })
	put("a shipment of no state", all(), func(s *api.State) { s.Ships[0].State = api.ShipNone })
	put("a shipment of another state", all(), func(s *api.State) { s.Ships[0].State = api.ShipCount })
}

func spoilOrders(put putter) {
	for name, id := range map[string]int{"0": 0, "below 0": -1, "far below 0": math.MinInt, "above": api.MaxOrders + 1, "far above": math.MaxInt} {
		put("an only Id "+name, api.State{Limit: 1, Orders: []api.Order{order(1, 5, api.StatusRejected, line(1, 1, 1, 5))}}, func(s *api.State) { s.Orders[0].Id = id })
		put("a last Id "+name, all(), func(s *api.State) { s.Orders[9].Id = id })
	}
	put("Ids that fall", all(), func(s *api.State) { s.Orders[0], s.Orders[1] = s.Orders[1], s.Orders[0] })
	put("last Ids that fall", all(), func(s *api.State) { s.Orders[8], s.Orders[9] = s.Orders[9], s.Orders[8] })
	put("an Id twice", all(), func(s *api.State) { s.Orders[3].Id = s.Orders[2].Id })
	put("an order twice", all(), func(s *api.State) { s.Orders[3] = s.Orders[2] })
	for at := range all().Orders {
		for name, change := range map[string]func(*api.Order){
			"no lines":                    func(o *api.Order) { o.Lines = nil },
			"no lines and no price":       func(o *api.Order) { o.Lines, o.Price = nil, 0 },
			"an item of 0":                func(o *api.Order) { o.Lines[0].Item = 0 },
			"an item above":               func(o *api.Order) { o.Lines[0].Item = api.MaxItems + 1 },
			"a warehouse of 0":            func(o *api.Order) { o.Lines[0].Ware = 0 },
			"a warehouse above":           func(o *api.Order) { o.Lines[0].Ware = api.MaxItems + 1 },
			"an item below 0":             func(o *api.Order) { o.Lines[0].Item = math.MinInt },
			"a warehouse below 0":         func(o *api.Order) { o.Lines[0].Ware = math.MinInt },
			"a line of no units":          func(o *api.Order) { o.Lines = append(o.Lines, line(1, 1, 0, 5)) },
			"a line of too many units":    func(o *api.Order) { o.Lines = append(o.Lines, line(1, 1, api.MaxQty+1, 0)) },
			"a line of less than a price": func(o *api.Order) { o.Lines = append(o.Lines, line(1, 1, 1, 1), line(1, 1, 1, -1)) },
			"a line of too great a price": func(o *api.Order) { *o = order(o.Id, api.MaxUnit+1, o.Status, line(1, 1, 1, api.MaxUnit+1)) },
			"too many lines": func(o *api.Order) {
				o.Lines = append(o.Lines, slices.Repeat([]api.Line{line(1, 1, 1, 0)}, api.MaxLines)...)
			},
			"no price": func(o *api.Order) { *o = order(o.Id, 0, o.Status, line(1, 1, 1, 0)) },
			"a price beyond 2^60": func(o *api.Order) {
				*o = order(o.Id, 1<<60+1, o.Status, line(1, 1, api.MaxQty, api.MaxUnit), line(1, 1, 1, 1))
			},
			"a price that goes round": func(o *api.Order) {
				*o = order(o.Id, 0, o.Status, slices.Repeat([]api.Line{line(1, 1, api.MaxQty, api.MaxUnit)}, api.MaxLines)...)
			},
			"a price one too great":   func(o *api.Order) { o.Price++ },
			"a price one too small":   func(o *api.Order) { o.Price-- },
			"a price of 0":            func(o *api.Order) { o.Price = 0 },
			"a price below 0":         func(o *api.Order) { o.Price = -o.Price },
			"StatusNone":              func(o *api.Order) { o.Status = api.StatusNone },
			"StatusCount":             func(o *api.Order) { o.Status = api.StatusCount },
			"the greatest of a byte":  func(o *api.Order) { o.Status = 255 },
			"a line more, not priced": func(o *api.Order) { o.Lines = append(o.Lines, line(1, 1, 1, 1)) },
		} {
			put("an order with "+name+" at "+string('0'+rune(at)), all(), func(s *api.State) { change(&s.Orders[at]) })
		}
	}
}

func spoilSagas(put putter) {
	for _, x := range sagas() {
		for _, s := range some[api.Status]() {
			if s != statusOf(x.Kind) {
				put("an order of status "+string('0'+rune(s))+" with a saga of "+short(one(x)), one(x), func(k *api.State) { k.Orders[0].Status = s })
			}
		}
		put("no saga of "+short(one(x)), one(x), func(s *api.State) { s.Sagas = nil })
		put("no order of "+short(one(x)), one(x), func(s *api.State) { s.Orders = nil })
		put("another order of "+short(one(x)), one(x), func(s *api.State) { s.Orders[0].Id = 4 })
		put("two sagas of "+short(one(x)), one(x), func(s *api.State) { s.Sagas = append(s.Sagas, x) })
		put("a saga of "+short(one(x))+" and one of none", one(x), func(s *api.State) { s.Sagas = append(s.Sagas, api.Saga{Order: 3}) })
		for name, o := range map[string]int{"0": 0, "below 0": -1, "above": api.MaxOrders + 1, "far above": math.MaxInt, "none there": 4} {
			put("an order of number "+name+" of "+short(one(x)), one(x), func(s *api.State) { s.Sagas[0].Order = o })
		}
		for _, k := range some[api.SagaKind]() {
			if k != x.Kind {
				put("a saga of kind "+string(rune(k)+'0')+" instead of "+short(one(x)), one(x), func(s *api.State) { s.Sagas[0].Kind = k })
			}
		}
	}
	for name, x := range map[string]api.Saga{
		"a checkout that is done":      {Kind: api.SagaCheckout, At: 5},
		"a checkout that is back":      {Kind: api.SagaCheckout, Undoing: true},
		"a checkout beyond":            {Kind: api.SagaCheckout, At: 6},
		"a checkout ahead":             {Kind: api.SagaCheckout, At: -1},
		"a checkout back from its end": {Kind: api.SagaCheckout, At: 5, Undoing: true},
		"a checkout back and ahead":    {Kind: api.SagaCheckout, At: -1, Undoing: true},
		"a checkout far ahead":         {Kind: api.SagaCheckout, At: math.MinInt},
		"a checkout far beyond":        {Kind: api.SagaCheckout, At: math.MaxInt},
		"a cancel that is over":        {Kind: api.SagaCancel, Undoing: true},
		"a cancel forwards":            {Kind: api.SagaCancel, At: 2},
		"a cancel back from its end":   {Kind: api.SagaCancel, At: 5, Undoing: true},
		"a return that is done":        {Kind: api.SagaReturn, At: 3},
		"a return beyond":              {Kind: api.SagaReturn, At: 4},
		"a return that is back":        {Kind: api.SagaReturn, Undoing: true},
		"a return on its way back":     {Kind: api.SagaReturn, At: 1, Undoing: true},
		"a return ahead":               {Kind: api.SagaReturn, At: -1},
	} {
		x.Order = 3
		put(name, one(x), func(*api.State) {})
	}
	put("two orders, one saga twice", manyOrders(2), func(s *api.State) { s.Sagas[1] = s.Sagas[0] })
	put("one saga too few", manyOrders(api.MaxOrders), func(s *api.State) { s.Sagas = s.Sagas[1:] })
	put("one saga of two, of another kind", manyOrders(2), func(s *api.State) {
		s.Sagas[1] = api.Saga{Order: 1, Kind: api.SagaCancel, At: 1, Undoing: true}
	})
	put("kinds of two orders changed over", all(), func(s *api.State) { s.Sagas[2].Order, s.Sagas[3].Order = s.Sagas[3].Order, s.Sagas[2].Order })
}

func spoilKept(put putter) {
	put("an empty mark", all(), func(s *api.State) { s.Kept[0].Mark = "" })
	put("an empty mark alone", api.State{Kept: []api.Kept{{}}}, func(*api.State) {})
	put("a mark that is too long", all(), func(s *api.State) { s.Kept[3].Mark += "a" })
	put("a first mark that is too long", all(), func(s *api.State) { s.Kept[0].Mark = strings.Repeat("\x00", api.MaxMark+1) })
	put("marks that fall", all(), func(s *api.State) { s.Kept[0], s.Kept[1] = s.Kept[1], s.Kept[0] })
	put("last marks that fall", all(), func(s *api.State) { s.Kept[2], s.Kept[3] = s.Kept[3], s.Kept[2] })
	put("a mark twice", all(), func(s *api.State) { s.Kept[1].Mark = s.Kept[0].Mark })
	put("a last mark twice", all(), func(s *api.State) { s.Kept[2].Mark = s.Kept[3].Mark })
	put("one mark too many", api.State{Kept: marks(api.MaxList + 1)}, func(*api.State) {})
	put("far too many marks", api.State{Kept: marks(5 * api.MaxList)}, func(*api.State) {})
	for at := range all().Kept {
		for name, r := range map[string]api.Reply{
			"a Why below OK":           {Why: -1},
			"a Why far below OK":       {Why: math.MinInt},
			"a Why above ErrType":      {Why: api.ErrType + 1},
			"a Why far above":          {Why: math.MaxInt},
			"a Status above":           {Status: api.StatusCount},
			"the greatest of a byte":   {Status: 255},
			"an Amount below 0":        {Amount: -1},
			"the least Amount":         {Amount: math.MinInt64},
			"a Why and an Amount less": {Why: api.ErrType, Amount: -1},
		} {
			put("a reply with "+name+" at "+string('0'+rune(at)), all(), func(s *api.State) { s.Kept[at].Reply = r })
		}
	}
}

// Promises 17.1 and 17.2 and rules P1 and P2: a state that is not right is ErrState, of every call, ahead of all other errors, with nothing beside it.
func TestNotRight(t *testing.T) {
	lines := []api.Line{line(1, 1, 1, 0)}
	for name, s := range spoilt() {
		before := clone(s)
		if why := saga.Check(s); why != api.ErrState {
			t.Errorf("Check of %s: error %d", name, why)
		}
		if n, why := saga.Pending(s); n != 0 || why != api.ErrState {
			t.Errorf("Pending of %s: %d, error %d", name, n, why)
		}
		for _, kind := range append(kinds(), api.AskNone, api.AskCount) {
			for _, mark := range []string{"", "again", "new", strings.Repeat("a", api.MaxMark+1)} {
				if k, r, why := saga.Ask(s, api.Ask{Mark: mark, Kind: kind, Order: 3, Lines: lines}); !same(k, api.State{}) || r != (api.Reply{}) || why != api.ErrState {
					t.Errorf("Ask of %s: %v, error %d", name, r, why)
				}
			}
		}
		for _, v := range []api.Verdict{accept, reject, api.VerdictCount} {
			for _, pick := range []int{0, 1, -1} {
				if k, told, why := saga.Pump(s, pick, v); !same(k, api.State{}) || told != (api.Told{}) || why != api.ErrState {
					t.Errorf("Pump of %s: %v, error %d", name, told, why)
				}
			}
		}
		if !same(s, before) {
			t.Errorf("%s has been changed", name)
		}
	}
}
