package kv

import (
	"maps"
	"slices"
	"strings"

	"lading/api"
	"lading/journal"
)

// Commit has a transaction's writes last, and count.
func (s *Store) Commit(tx int) api.Errno {
	if why := s.ready(); why != api.OK {
		return why
	}
	writes, conflicts, why := s.Peek(tx)
	if why != api.OK {
		return why
	}
	defer s.Manager.Abort(tx) // one that is refused is over as well
	if conflicts {
		return api.ErrConflict
	}
	if len(writes) == 0 {
		return api.OK
	}
	if why := s.save(writes); why != api.OK {
		return why
	}
	s.note(writes)
	_, _, why = s.Manager.Commit(tx)
	return why
}

// Checkpoint has the tree have what there is, so that the journal is empty.
func (s *Store) Checkpoint() api.Errno {
	if why := s.ready(); why != api.OK {
		return why
	}
	rising := func(a, b api.Write) int { return strings.Compare(a.Key, b.Key) }
	changes := slices.SortedFunc(maps.Values(s.changed), rising)
	next := s.journal.Next()
	if why := s.told(s.tree.Update(changes, next)); why != api.OK {
		return why
	}
	clear(s.changed)
	return s.journal.Drop(next)
}

// save has the journal have writes, unless they are refused.
func (s *Store) save(writes []api.Write) api.Errno {
	records := recordsOf(writes)
	batch, why := journal.Frame(records, s.journal.Next())
	if why != api.OK {
		return why
	}
	switch {
	case len(s.Versions().List)+len(writes) > api.MaxList: // as the manager counts them
		return api.ErrMany
	case s.liveWith(writes) > s.Cap() || len(batch) > s.journalSectors():
		return api.ErrFull
	}
	if len(batch) > s.journal.Room() {
		if why := s.Checkpoint(); why != api.OK {
			return why
		}
	}
	return s.told(s.journal.Append(records))
}

// liveWith is how many entries there would be with writes done.
func (s *Store) liveWith(writes []api.Write) int {
	there := s.Pairs()
	live := len(there)
	for _, w := range writes {
		_, is := slices.BinarySearchFunc(there, w.Key, func(p api.Pair, key string) int {
			return strings.Compare(p.Key, key)
		})
		switch {
		case is && w.Gone:
			live--
		case !is && !w.Gone:
			live++
		}
	}
	return live
}

// journalSectors is how many the journal has: its room, and what is in it.
func (s *Store) journalSectors() int {
	return s.journal.Room() + int(s.journal.Next()-s.journal.From())
}
