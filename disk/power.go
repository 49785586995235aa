package disk

import "lading/api"

// Arm has the power go at the write behind count further ones; below 0 not at all.
func (d *Disk) Arm(count int) api.Errno {
	if why := d.ready(); why != api.OK {
		return why
	}
	d.armed = count >= 0
	d.left = max(count, 0)
	return api.OK
}

// Cut has the power go.
func (d *Disk) Cut() api.Errno {
	if why := d.ready(); why != api.OK {
		return why
	}
	d.down = true
	return api.OK
}

// Restore has the power back; the sectors that were unsynced have their fates.
func (d *Disk) Restore(fates []api.Fate) api.Errno {
	if d == nil {
		return api.ErrNil
	}
	if !d.down {
		return api.ErrState
	}
	if why := areFates(fates); why != api.OK {
		return why
	}
	for turn, i := range d.Unsynced() {
		var fate api.Fate // that of sectors for which there is none: they lose
		if turn < len(fates) {
			fate = fates[turn]
		}
		d.synced[i] = outcome(fate, d.synced[i], d.fresh[i])
	}
	clear(d.fresh)
	d.armed, d.left, d.down = false, 0, false
	return api.OK
}

// passes counts a write down, if the disk is armed; where it does not pass, the power goes.
func (d *Disk) passes() bool {
	if !d.armed {
		return true
	}
	if d.left == 0 {
		return false
	}
	d.left--
	return true
}

func areFates(fates []api.Fate) api.Errno {
	if len(fates) > api.MaxSectors {
		return api.ErrMany
	}
	for _, f := range fates {
		if f.Kind >= api.FateCount {
			return api.ErrType
		}
	}
	return api.OK
}

// outcome is what a sector is, which was synced as old and written as fresh.
func outcome(f api.Fate, old, fresh []byte) []byte {
	switch f.Kind {
	case api.FateKeep:
		return fresh
	case api.FateTear:
		return torn(f.Mask, old, fresh)
	}
	return old
}

func torn(mask uint8, old, fresh []byte) []byte {
	b, written := whole(old), whole(fresh)
	for i := range api.SectorSize / api.Grain {
		if mask>>i&1 == 1 {
			from := i * api.Grain
			copy(b[from:from+api.Grain], written[from:])
		}
	}
	return b
}
