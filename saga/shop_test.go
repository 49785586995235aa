package saga_test

import (
	"maps"
	"math/big"
	"slices"

	"lading/api"
)

// shop is the service as the chapters tell it, in the plainest way: everything in maps, but for postings and sagas, which stand in order.
type shop struct {
	limit    int
	cells    map[[2]int]api.Cell
	pays     map[int]api.Pay
	postings []api.Posting
	ships    map[int]api.ShipState
	orders   map[int]api.Order
	sagas    []api.Saga
	kept     map[string]api.Reply
}

func shopOf(s api.State) *shop {
	p := &shop{limit: s.Limit, cells: map[[2]int]api.Cell{}, pays: map[int]api.Pay{}, ships: map[int]api.ShipState{}, orders: map[int]api.Order{}, kept: map[string]api.Reply{}}
	for _, x := range s.Cells {
		p.cells[[2]int{x.Item, x.Ware}] = x
	}
	for _, x := range s.Books.Pays {
		p.pays[x.Order] = x
	}
	for _, x := range s.Ships {
		p.ships[x.Order] = x.State
	}
	for _, x := range s.Orders {
		p.orders[x.Id] = x
	}
	for _, x := range s.Kept {
		p.kept[x.Mark] = x.Reply
	}
	p.postings, p.sagas = slices.Clone(s.Books.Postings), slices.Clone(s.Sagas)
	return p
}

func (p *shop) clone() *shop { return shopOf(p.state()) }

func (p *shop) state() api.State {
	s := api.State{Limit: p.limit, Sagas: slices.Clone(p.sagas), Books: api.Books{Postings: slices.Clone(p.postings)}}
	for _, x := range p.cells {
		s.Cells = append(s.Cells, x)
	}
	slices.SortFunc(s.Cells, func(a, b api.Cell) int { return (a.Item-b.Item)*4*api.MaxItems + a.Ware - b.Ware })
	for _, order := range slices.Sorted(maps.Keys(p.pays)) {
		if x := p.pays[order]; x.Open != 0 || x.Captured != 0 || x.Refunded != 0 {
			s.Books.Pays = append(s.Books.Pays, x)
		}
	}
	for _, order := range slices.Sorted(maps.Keys(p.ships)) {
		s.Ships = append(s.Ships, api.Shipment{Order: order, State: p.ships[order]})
	}
	for _, order := range slices.Sorted(maps.Keys(p.orders)) {
		s.Orders = append(s.Orders, p.orders[order])
	}
	for _, mark := range slices.Sorted(maps.Keys(p.kept)) {
		s.Kept = append(s.Kept, api.Kept{Mark: mark, Reply: p.kept[mark]})
	}
	return s
}

func refused(why api.Errno) api.Reply { return api.Reply{Why: why} }

func (p *shop) ask(a api.Ask) api.Reply {
	if !slices.Contains(kinds(), a.Kind) {
		return refused(api.ErrType)
	}
	if len(a.Mark) > api.MaxMark {
		return refused(api.ErrLong)
	}
	if a.Mark == "" {
		return p.do(a)
	}
	if r, is := p.kept[a.Mark]; is {
		return r
	}
	if len(p.kept) >= api.MaxList {
		return refused(api.ErrFull)
	}
	r := p.do(a)
	p.kept[a.Mark] = r
	return r
}

func (p *shop) do(a api.Ask) api.Reply {
	o, is := p.orders[a.Order]
	switch a.Kind {
	case api.AskCheckout:
		return p.checkout(a)
	case api.AskRestock:
		return refused(p.restock(a.Lines))
	case api.AskFree:
		if len(a.Lines) != 1 || outside(a.Lines[0]) {
			return refused(api.ErrRange)
		}
		return api.Reply{Amount: p.cells[[2]int{a.Lines[0].Item, a.Lines[0].Ware}].Free}
	}
	if !is {
		return refused(api.ErrUnknown)
	}
	if a.Kind == api.AskCancel && o.Status != api.StatusOpen || a.Kind == api.AskReturn && o.Status != api.StatusFulfilled {
		return refused(api.ErrState)
	}
	if a.Kind == api.AskCancel {
		o.Status = api.StatusCancelling
		i := slices.IndexFunc(p.sagas, func(x api.Saga) bool { return x.Order == a.Order })
		p.sagas[i] = api.Saga{Order: a.Order, Kind: api.SagaCancel, At: p.sagas[i].At, Undoing: true}
		if p.sagas[i].At == 0 {
			o.Status = api.StatusCancelled
			p.sagas = append(p.sagas[:i:i], p.sagas[i+1:]...)
		}
	}
	if a.Kind == api.AskReturn {
		o.Status = api.StatusReturning
		p.sagas = append(p.sagas, api.Saga{Order: a.Order, Kind: api.SagaReturn})
	}
	p.orders[a.Order] = o
	return api.Reply{Status: o.Status, Amount: o.Price}
}

func outside(x api.Line) bool {
	return min(x.Item, x.Ware) < 1 || max(x.Item, x.Ware) > api.MaxItems
}

// cost is what lines come to, or why they may not be.
func cost(l []api.Line) (int64, api.Errno) {
	if len(l) == 0 || slices.ContainsFunc(l, outside) {
		return 0, api.ErrRange
	}
	if len(l) > api.MaxLines {
		return 0, api.ErrMany
	}
	sum := new(big.Int)
	for _, x := range l {
		if x.Qty < 1 || x.Qty > api.MaxQty || x.Unit < 0 || x.Unit > api.MaxUnit {
			return 0, api.ErrRange
		}
		sum.Add(sum, new(big.Int).Mul(big.NewInt(x.Qty), big.NewInt(x.Unit)))
	}
	switch {
	case sum.Sign() == 0:
		return 0, api.ErrRange
	case sum.Cmp(big.NewInt(1<<60)) > 0:
		return 0, api.ErrOver
	}
	return sum.Int64(), api.OK
}

func (p *shop) checkout(a api.Ask) api.Reply {
	if a.Order < 1 || a.Order > api.MaxOrders {
		return refused(api.ErrRange)
	}
	price, why := cost(a.Lines)
	if why != api.OK {
		return refused(why)
	}
	if _, is := p.orders[a.Order]; is {
		return refused(api.ErrTwice)
	}
	if len(p.orders) >= p.limit {
		return refused(api.ErrFull)
	}
	p.orders[a.Order] = api.Order{Id: a.Order, Lines: slices.Clone(a.Lines), Price: price, Status: api.StatusOpen}
	p.sagas = append(p.sagas, api.Saga{Order: a.Order, Kind: api.SagaCheckout})
	return api.Reply{Status: api.StatusOpen, Amount: price}
}

func (p *shop) restock(l []api.Line) api.Errno {
	if len(l) == 0 {
		return api.ErrRange
	}
	for _, x := range l {
		if x.Unit != 0 {
			return api.ErrRange
		}
	}
	if len(l) > api.MaxLines {
		return api.ErrMany
	}
	cells := maps.Clone(p.cells)
	for _, x := range l {
		if outside(x) || x.Qty < 1 || x.Qty > api.MaxQty {
			return api.ErrRange
		}
		c, is := cells[[2]int{x.Item, x.Ware}]
		if c.All+x.Qty > 1<<50 {
			return api.ErrOver
		}
		if !is && len(cells) == api.MaxList {
			return api.ErrMany
		}
		c.Item, c.Ware, c.Free, c.All = x.Item, x.Ware, c.Free+x.Qty, c.All+x.Qty
		cells[[2]int{x.Item, x.Ware}] = c
	}
	p.cells = cells
	return api.OK
}

// next is a saga's next step; none, if it is over.
func next(x api.Saga) api.StepKind {
	steps := []api.StepKind{api.StepReserve, api.StepAuthorise, api.StepBook, api.StepCapture, api.StepSend, api.StepNone}
	if x.Kind == api.SagaReturn {
		steps = []api.StepKind{api.StepLabel, api.StepReceive, api.StepRefund, api.StepNone}
	}
	if x.Undoing {
		return []api.StepKind{api.StepNone, api.StepRelease, api.StepVoid, api.StepUnbook, api.StepRefund}[x.At]
	}
	return steps[x.At]
}

// asked are the steps at which someone is asked.
func asked() []api.StepKind {
	return []api.StepKind{api.StepAuthorise, api.StepBook, api.StepCapture, api.StepSend, api.StepVoid, api.StepUnbook, api.StepRefund, api.StepLabel}
}

func (p *shop) pump(pick int, v api.Verdict) api.Told {
	i := int(new(big.Int).Mod(big.NewInt(int64(pick)), big.NewInt(int64(len(p.sagas)))).Int64())
	x := p.sagas[i]
	told := api.Told{Order: x.Order, Kind: x.Kind, Step: next(x)}
	if v == api.VerdictReject && slices.Contains(asked(), told.Step) {
		told.Why = api.ErrConflict
	} else {
		told.Why = p.step(told.Step, p.orders[x.Order])
	}
	switch {
	case told.Why == api.OK && x.Undoing:
		x.At--
	case told.Why == api.OK:
		x.At++
	case !x.Undoing && (x.Kind == api.SagaCheckout || told.Step == api.StepLabel):
		x.Undoing = true
	}
	p.sagas[i] = x
	if next(x) != api.StepNone {
		return told
	}
	told.Over = true
	p.sagas = append(p.sagas[:i:i], p.sagas[i+1:]...)
	o := p.orders[x.Order]
	switch {
	case x.Kind == api.SagaCancel:
		o.Status = api.StatusCancelled
	case x.Kind == api.SagaCheckout && x.Undoing:
		o.Status = api.StatusRejected
	case x.Kind == api.SagaReturn && !x.Undoing:
		o.Status = api.StatusReturned
	default:
		o.Status = api.StatusFulfilled
	}
	p.orders[x.Order] = o
	return told
}

// step does a step of an order, or nothing.
func (p *shop) step(step api.StepKind, o api.Order) api.Errno {
	q := p.clone()
	for _, do := range []func(api.StepKind, api.Order) api.Errno{q.carry, q.units, q.money} {
		if why := do(step, o); why != api.OK {
			return why
		}
	}
	*p = *q
	return api.OK
}

func (p *shop) carry(step api.StepKind, o api.Order) api.Errno {
	type way struct {
		step api.StepKind
		from api.ShipState
	}
	ways := map[way]api.ShipState{
		{api.StepBook, api.ShipNone}:        api.ShipBooked,
		{api.StepUnbook, api.ShipBooked}:    api.ShipCancelled,
		{api.StepSend, api.ShipBooked}:      api.ShipSent,
		{api.StepLabel, api.ShipSent}:       api.ShipLabelled,
		{api.StepLabel, api.ShipThere}:      api.ShipLabelled,
		{api.StepReceive, api.ShipLabelled}: api.ShipBack,
	}
	if !slices.Contains([]api.StepKind{api.StepBook, api.StepUnbook, api.StepSend, api.StepLabel, api.StepReceive}, step) {
		return api.OK
	}
	to, is := ways[way{step, p.ships[o.Id]}]
	if !is {
		return api.ErrState
	}
	p.ships[o.Id] = to
	return api.OK
}

func (p *shop) units(step api.StepKind, o api.Order) api.Errno {
	for _, x := range o.Lines {
		c := p.cells[[2]int{x.Item, x.Ware}]
		var from, to *int64
		switch step {
		case api.StepReserve:
			from, to = &c.Free, &c.Held
		case api.StepRelease:
			from, to = &c.Held, &c.Free
		case api.StepSend:
			from, to = &c.Held, &c.Out
		case api.StepReceive:
			from, to = &c.Out, &c.Free
		default:
			return api.OK
		}
		if *from < x.Qty {
			return api.ErrStock
		}
		*from -= x.Qty
		*to += x.Qty
		p.cells[[2]int{x.Item, x.Ware}] = c
	}
	return api.OK
}

func (p *shop) money(step api.StepKind, o api.Order) api.Errno {
	x := p.pays[o.Id]
	x.Order = o.Id
	post := api.Posting{Order: o.Id}
	switch step {
	case api.StepAuthorise:
		if x.Open != 0 {
			return api.ErrState
		}
		post.From, post.To, post.Amount = api.AccountCard, api.AccountHold, o.Price
		x.Open = o.Price
	case api.StepVoid:
		if x.Open == 0 {
			return api.OK
		}
		post.From, post.To, post.Amount = api.AccountHold, api.AccountCard, x.Open
		x.Open = 0
	case api.StepCapture:
		if x.Open == 0 {
			return api.ErrState
		}
		post.From, post.To, post.Amount = api.AccountHold, api.AccountSales, x.Open
		x.Open, x.Captured = 0, x.Captured+x.Open
	case api.StepRefund:
		if x.Captured == x.Refunded {
			return api.ErrRange
		}
		post.From, post.To, post.Amount = api.AccountSales, api.AccountCard, x.Captured-x.Refunded
		x.Refunded = x.Captured
	default:
		return api.OK
	}
	if len(p.postings) >= api.MaxEvents {
		return api.ErrMany
	}
	if x.Captured > 1<<60 {
		return api.ErrOver
	}
	p.postings = append(p.postings, post)
	p.pays[o.Id] = x
	return api.OK
}
