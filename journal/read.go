package journal

import (
	"lading/api"
	"lading/codec"
)

const longestNum = 10 // bytes of a number, at most

// reader goes through a batch's text. Records are longer than codec's own texts may be, so it reads lengths, and takes the bytes itself.
type reader struct {
	rest []byte
}

// readBatch is the records of a text that is a batch's to its end.
func readBatch(text []byte) ([]string, bool) {
	r := reader{rest: text}
	count, ok := r.num(api.MaxList)
	if !ok {
		return nil, false
	}
	var records []string
	for range count {
		record, ok := r.record()
		if !ok {
			return nil, false
		}
		records = append(records, record)
	}
	return records, len(r.rest) == 0
}

// num hands codec no more bytes than a number may have, since codec copies all that is behind it.
func (r *reader) num(most uint64) (uint64, bool) {
	ahead := r.rest[:min(longestNum, len(r.rest))]
	n, behind, why := codec.ReadNum(ahead)
	if why != api.OK || n > most {
		return 0, false
	}
	r.rest = r.rest[len(ahead)-len(behind):]
	return n, true
}

func (r *reader) record() (string, bool) {
	n, ok := r.num(api.MaxRecord)
	if !ok || n > uint64(len(r.rest)) {
		return "", false
	}
	record := string(r.rest[:n])
	r.rest = r.rest[n:]
	return record, true
}
