package desk

import (
	"bytes"

	"lading/api"
	"lading/disk"
)

const firstOfJournal = 2 // its first sector, as the store has it

// wipe has the sectors of the journal be noughts. A store that is made new numbers its batches from 1 on: what an older one has left there would count as its own, where the numbers go on.
func wipe(d *disk.Disk, journal int) api.Errno {
	noughts := make([]byte, api.SectorSize)
	for i := range journal {
		data, why := d.Read(firstOfJournal + i)
		if why != api.OK {
			return why
		}
		if bytes.Equal(data, noughts) {
			continue
		}
		if why := d.Write(firstOfJournal+i, noughts); why != api.OK {
			return why
		}
	}
	return d.Sync()
}
