package txn

import (
	"slices"
	"strings"

	"lading/api"
	"lading/mvcc"
)

// transaction is an open one.
type transaction struct {
	began  uint64
	reads  []span               // one for each call that was answered
	writes map[string]api.Write // by their keys
}

// span is the keys that are at least from and, if to is not empty, below to.
type span struct{ from, to string }

func (s span) has(key string) bool {
	return key >= s.from && (s.to == "" || key < s.to)
}

// Get is what a key is for a transaction, and whether it is there.
func (m *Manager) Get(tx int, key string) (string, bool, api.Errno) {
	x, why := m.find(tx)
	switch {
	case why != api.OK:
		return "", false, why
	case len(key) > api.MaxKey:
		return "", false, api.ErrLong
	case len(x.reads) == api.MaxReads:
		return "", false, api.ErrMany
	}
	// No other key lies between a key and the same with a zero byte behind it.
	x.reads = append(x.reads, span{key, key + "\x00"})
	if w, is := x.writes[key]; is {
		return w.Val, !w.Gone, api.OK
	}
	return mvcc.Get(m.versions, key, x.began)
}

// Scan are the keys of a span that are there for a transaction, rising.
func (m *Manager) Scan(tx int, from, to string) ([]api.Pair, api.Errno) {
	x, why := m.find(tx)
	switch {
	case why != api.OK:
		return nil, why
	case len(x.reads) == api.MaxReads:
		return nil, api.ErrMany
	}
	asked := span{from, to}
	x.reads = append(x.reads, asked)
	before, why := mvcc.Scan(m.versions, from, to, x.began)
	return x.sees(before, asked), why
}

// Put has a key have a value, for a transaction.
func (m *Manager) Put(tx int, key, val string) api.Errno {
	return m.write(tx, api.Write{Key: key, Val: val})
}

// Delete has a key be away, for a transaction.
func (m *Manager) Delete(tx int, key string) api.Errno {
	return m.write(tx, api.Write{Key: key, Gone: true})
}

// Do does a step.
func (m *Manager) Do(s api.TxStep) api.TxAnswer {
	if m == nil {
		return api.TxAnswer{Why: api.ErrNil}
	}
	var a api.TxAnswer
	switch s.Kind {
	case api.TxBegin:
		a.Tx, a.Why = m.Begin()
	case api.TxGet:
		a.Val, a.Is, a.Why = m.Get(s.Tx, s.Key)
	case api.TxScan:
		a.Pairs, a.Why = m.Scan(s.Tx, s.Key, s.To)
	case api.TxPut:
		a.Why = m.Put(s.Tx, s.Key, s.Val)
	case api.TxDelete:
		a.Why = m.Delete(s.Tx, s.Key)
	case api.TxCommit:
		a.Done, a.Time, a.Why = m.Commit(s.Tx)
	case api.TxAbort:
		a.Why = m.Abort(s.Tx)
	default:
		a.Why = api.ErrType
	}
	return a
}

func (m *Manager) write(tx int, w api.Write) api.Errno {
	x, why := m.find(tx)
	if why != api.OK {
		return why
	}
	if len(w.Key) > api.MaxKey || len(w.Val) > api.MaxValue {
		return api.ErrLong
	}
	if _, is := x.writes[w.Key]; !is && len(x.writes) == api.MaxReads {
		return api.ErrMany
	}
	x.writes[w.Key] = w
	return api.OK
}

// sees are the pairs of a span that were there when the transaction began, with its own writes done.
func (x *transaction) sees(before []api.Pair, asked span) []api.Pair {
	var seen []api.Pair
	for _, p := range before {
		if _, is := x.writes[p.Key]; !is {
			seen = append(seen, p)
		}
	}
	for _, w := range x.writes {
		if asked.has(w.Key) && !w.Gone {
			seen = append(seen, api.Pair{Key: w.Key, Val: w.Val})
		}
	}
	slices.SortFunc(seen, func(a, b api.Pair) int { return strings.Compare(a.Key, b.Key) })
	return seen
}

// done are the transaction's writes so far, by rising keys.
func (x *transaction) done() []api.Write {
	var l []api.Write
	for _, w := range x.writes {
		l = append(l, w)
	}
	slices.SortFunc(l, func(a, b api.Write) int { return strings.Compare(a.Key, b.Key) })
	return l
}

// conflicts tells whether something that the transaction has read has become otherwise since it began.
func (x *transaction) conflicts(v api.Versions) bool {
	return slices.ContainsFunc(v.List, func(y api.Version) bool {
		return y.At > x.began && x.hasRead(y.Key)
	})
}

func (x *transaction) hasRead(key string) bool {
	return slices.ContainsFunc(x.reads, func(s span) bool { return s.has(key) })
}
