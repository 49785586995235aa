package kv

import "lading/api"

// Begin begins a transaction.
func (s *Store) Begin() (int, api.Errno) {
	if why := s.ready(); why != api.OK {
		return 0, why
	}
	return s.Manager.Begin()
}

// Get is what a key is for a transaction, and whether it is there.
func (s *Store) Get(tx int, key string) (string, bool, api.Errno) {
	if why := s.ready(); why != api.OK {
		return "", false, why
	}
	return s.Manager.Get(tx, key)
}

// Scan are the keys of a span that are there for a transaction, rising.
func (s *Store) Scan(tx int, from, to string) ([]api.Pair, api.Errno) {
	if why := s.ready(); why != api.OK {
		return nil, why
	}
	return s.Manager.Scan(tx, from, to)
}

// Put has a key have a value, for a transaction.
func (s *Store) Put(tx int, key, val string) api.Errno {
	if why := s.ready(); why != api.OK {
		return why
	}
	return s.Manager.Put(tx, key, val)
}

// Delete has a key be away, for a transaction.
func (s *Store) Delete(tx int, key string) api.Errno {
	if why := s.ready(); why != api.OK {
		return why
	}
	return s.Manager.Delete(tx, key)
}

// Abort has a transaction come to nothing.
func (s *Store) Abort(tx int) api.Errno {
	if why := s.ready(); why != api.OK {
		return why
	}
	return s.Manager.Abort(tx)
}

// Do does a step.
func (s *Store) Do(x api.TxStep) api.TxAnswer {
	if s == nil {
		return api.TxAnswer{Why: api.ErrNil}
	}
	var a api.TxAnswer
	switch x.Kind {
	case api.TxBegin:
		a.Tx, a.Why = s.Begin()
	case api.TxGet:
		a.Val, a.Is, a.Why = s.Get(x.Tx, x.Key)
	case api.TxScan:
		a.Pairs, a.Why = s.Scan(x.Tx, x.Key, x.To)
	case api.TxPut:
		a.Why = s.Put(x.Tx, x.Key, x.Val)
	case api.TxDelete:
		a.Why = s.Delete(x.Tx, x.Key)
	case api.TxCommit:
		a.Why = s.Commit(x.Tx)
	case api.TxAbort:
		a.Why = s.Abort(x.Tx)
	default:
		a.Why = api.ErrType
	}
	return a
}
