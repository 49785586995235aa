package desk

import (
	"lading/api"
	"lading/image"
)

// step is one of a transaction.
type step func(tx int) api.Errno

// become has the store have the entries of a state, as a whole or not at all.
func (k *Desk) become(s api.State) api.Errno {
	writes, why := k.writes(s)
	if why != api.OK {
		return why
	}
	return k.commit(writes)
}

// writes are what must be written to have a state of the one that there is; nothing, if it is that one.
func (k *Desk) writes(s api.State) ([]api.Write, api.Errno) {
	entries, why := image.Entries(s)
	if why != api.OK {
		return nil, why
	}
	return image.Diff(k.store.Pairs(), entries)
}

// commit does writes in one transaction. Where a step is refused the transaction is given up, so that none stays open.
func (k *Desk) commit(writes []api.Write) api.Errno {
	tx, why := k.store.Begin()
	if why != api.OK {
		return why
	}
	for _, do := range k.steps(writes) {
		if why := k.told(do(tx)); why != api.OK {
			k.store.Abort(tx)
			return why
		}
	}
	return api.OK
}

// steps are those of a transaction that does writes, its commit the last one.
func (k *Desk) steps(writes []api.Write) []step {
	var l []step
	for _, w := range writes {
		do := func(tx int) api.Errno { return k.store.Put(tx, w.Key, w.Val) }
		if w.Gone {
			do = func(tx int) api.Errno { return k.store.Delete(tx, w.Key) }
		}
		l = append(l, do)
	}
	return append(l, k.store.Commit)
}
