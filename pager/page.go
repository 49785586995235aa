package pager

import (
	"slices"

	"lading/api"
)

// Alloc gives out the least page that is free.
func (p *Pager) Alloc() (int, api.Errno) {
	if why := p.ready(); why != api.OK {
		return 0, why
	}
	at := slices.Index(p.states, free)
	if at < 0 {
		return 0, api.ErrFull
	}
	p.states[at] = fresh
	return p.first() + at, api.OK
}

// Free takes a page back. What was committed may still ask for one that was kept: it is free with the next commit only.
func (p *Pager) Free(page int) api.Errno {
	if why := p.check(page, fresh, kept); why != api.OK {
		return why
	}
	if p.is(page, fresh) {
		p.set(page, free)
	} else {
		p.set(page, leaving)
	}
	return api.OK
}

// Page is the bytes of a page.
func (p *Pager) Page(page int) ([]byte, api.Errno) {
	if why := p.check(page, fresh, kept, leaving); why != api.OK {
		return nil, why
	}
	return p.disk.Read(page)
}

// Write has a page be data, and noughts behind it.
func (p *Pager) Write(page int, data []byte) api.Errno {
	if why := p.check(page, fresh); why != api.OK {
		return why
	}
	return p.told(p.disk.Write(page, data))
}

// Commit has all that was done count. Pages are safe ahead of the superblock that names them.
func (p *Pager) Commit(root int, seq uint64, live int) api.Errno {
	if why := p.ready(); why != api.OK {
		return why
	}
	next := api.Super{Gen: p.super.Gen + 1, Root: root, Seq: seq, Journal: p.super.Journal, Live: live}
	b, why := blockOf(p.disk, next)
	if why != api.OK {
		return why
	}
	if root != 0 && !p.is(root, fresh, kept) {
		return api.ErrState
	}
	if why := inTurn(p.disk.Sync, b.write, p.disk.Sync); why != api.OK {
		return p.told(why)
	}
	p.super = next
	for i, s := range p.states {
		p.states[i] = settled(s)
	}
	return api.OK
}

// settled is what a commit makes of a page.
func settled(s state) state {
	switch s {
	case fresh:
		return kept
	case leaving:
		return free
	}
	return s
}

// told is why; where the power went the pager is done for.
func (p *Pager) told(why api.Errno) api.Errno {
	p.failed = p.failed || why == api.ErrDown
	return why
}

// check is why nothing can be done with a page that must be in one of these states.
func (p *Pager) check(page int, states ...state) api.Errno {
	if why := p.ready(); why != api.OK {
		return why
	}
	if !p.has(page) {
		return api.ErrRange
	}
	if !p.is(page, states...) {
		return api.ErrState
	}
	return api.OK
}

// is tells whether there is such a page, in one of these states.
func (p *Pager) is(page int, states ...state) bool {
	return p.has(page) && slices.Contains(states, p.states[page-p.first()])
}

func (p *Pager) set(page int, s state) {
	p.states[page-p.first()] = s
}

func (p *Pager) has(page int) bool {
	return page >= p.first() && page-p.first() < len(p.states)
}

func (p *Pager) first() int {
	return firstPage(p.super.Journal)
}
