package tree

import (
	"cmp"
	"slices"

	"lading/api"
	"lading/pager"
)

// Update has keys have values, or not, as a whole.
func (t *Tree) Update(l []api.Write, seq uint64) api.Errno {
	if t == nil {
		return api.ErrNil
	}
	if t.failed {
		return api.ErrState
	}
	if len(l) > api.MaxList {
		return api.ErrMany
	}
	changes := byKey(l)
	if why := t.check(l, changes, seq); why != api.OK {
		return why
	}
	entries := t.changed(l, changes)
	if len(entries) > t.Cap() {
		return api.ErrFull
	}
	why := t.become(entries, seq)
	t.failed = why == api.ErrDown
	return why
}

func byKey(l []api.Write) map[string]api.Write {
	changes := map[string]api.Write{}
	for _, w := range l {
		changes[w.Key] = w
	}
	return changes
}

// check tells why writes can't be done; of a sequence the pager says it, ahead of anything that is done.
func (t *Tree) check(l []api.Write, changes map[string]api.Write, seq uint64) api.Errno {
	for _, w := range l {
		if len(w.Key) > api.MaxKey || len(w.Val) > api.MaxValue {
			return api.ErrLong
		}
	}
	if len(changes) < len(l) {
		return api.ErrTwice
	}
	next := t.pager.Super()
	next.Gen++
	next.Seq = seq
	_, why := pager.Bytes(next)
	return why
}

// changed are the entries with all writes done.
func (t *Tree) changed(l []api.Write, changes map[string]api.Write) []entry {
	var entries []entry
	for e := range t.from("") {
		if _, is := changes[e.Key]; !is {
			entries = append(entries, entry(e))
		}
	}
	for _, w := range l {
		if !w.Gone {
			entries = append(entries, entry{Key: w.Key, Val: w.Val})
		}
	}
	slices.SortFunc(entries, func(a, b entry) int { return cmp.Compare(a.Key, b.Key) })
	return entries
}

// become has the tree be that of these entries. What it was stays till the new one counts, here as on the disk.
func (t *Tree) become(entries []entry, seq uint64) api.Errno {
	b := beside(t)
	next, why := b.build(entries)
	if why != api.OK {
		giveBack(t.pager, b.fresh)
		return why
	}
	for number := range t.pages {
		if _, stays := next.pages[number]; stays {
			continue
		}
		if why := t.pager.Free(number); why != api.OK {
			return why
		}
	}
	if why := t.pager.Commit(next.root, seq, next.live); why != api.OK {
		return why
	}
	*t = next
	return api.OK
}
