package kv

import (
	"slices"

	"lading/api"
	"lading/codec"
)

// What stands behind the key of a record.
const (
	isGone  = 0
	isThere = 1 // its value follows
)

// recordOf is a write as the journal has it.
func recordOf(w api.Write) string {
	b := codec.Text(nil, w.Key)
	if w.Gone {
		return string(append(b, isGone))
	}
	return string(codec.Text(append(b, isThere), w.Val))
}

func recordsOf(writes []api.Write) []string {
	var records []string
	for _, w := range writes {
		records = append(records, recordOf(w))
	}
	return records
}

// readRecords are the writes of records, if each is one that a transaction can have written, in its one form.
func readRecords(records []string) ([]api.Write, bool) {
	wrong := func(record string) bool {
		w := readRecord(record)
		return len(w.Key) > api.MaxKey || len(w.Val) > api.MaxValue || recordOf(w) != record
	}
	if slices.ContainsFunc(records, wrong) {
		return nil, false
	}
	var writes []api.Write
	for _, record := range records {
		writes = append(writes, readRecord(record))
	}
	return writes, true
}

// readRecord is the write of a record; of what is none it is a write of another record.
func readRecord(record string) api.Write {
	key, behind, _ := codec.ReadText([]byte(record))
	if len(behind) == 0 || behind[0] == isGone {
		return api.Write{Key: key, Gone: true}
	}
	val, _, _ := codec.ReadText(behind[1:])
	return api.Write{Key: key, Val: val}
}
