package desk

import (
	"lading/api"
	"lading/saga"
)

// Ask does a request, unless there is no room for all that may come of it.
func (k *Desk) Ask(a api.Ask) (api.Reply, api.Errno) {
	if why := k.ready(); why != api.OK {
		return api.Reply{}, why
	}
	next, reply, why := saga.Ask(k.State(), a)
	if why != api.OK {
		return api.Reply{}, why
	}
	writes, why := k.writes(next)
	if why != api.OK {
		return api.Reply{}, why
	}
	if len(writes) > 0 && k.roomWith(next) < 0 {
		return api.Reply{Why: api.ErrFull}, api.OK
	}
	if why := k.commit(writes); why != api.OK {
		return api.Reply{}, why
	}
	return reply, api.OK
}

// Pump has a saga do its next step.
func (k *Desk) Pump(pick int, v api.Verdict) (api.Told, api.Errno) {
	if why := k.ready(); why != api.OK {
		return api.Told{}, why
	}
	next, told, why := saga.Pump(k.State(), pick, v)
	if why != api.OK {
		return api.Told{}, why
	}
	if why := k.become(next); why != api.OK {
		return api.Told{}, why
	}
	return told, api.OK
}

// Checkpoint empties the journal.
func (k *Desk) Checkpoint() api.Errno {
	if why := k.ready(); why != api.OK {
		return why
	}
	return k.told(k.store.Checkpoint())
}

// Do does an act.
func (k *Desk) Do(a api.Act) (api.Reply, api.Told, api.Errno) {
	if a.Pump {
		told, why := k.Pump(a.Pick, a.Verdict)
		return api.Reply{}, told, why
	}
	reply, why := k.Ask(a.Ask)
	return reply, api.Told{}, why
}
