package codec

import "lading/api"

const (
	numMark  = 1 // ahead of textMark, as numbers stand ahead of texts
	textMark = 2
	textEnd  = 1   // behind a byte 0: lower than whatever a longer text has there
	nought   = 255 // behind a byte 0 that is the text's own
	numBytes = 8
	byteBits = 8
)

// Key is the bytes of parts, which stand as the parts do.
func Key(parts []api.Part) ([]byte, api.Errno) {
	if len(parts) > api.MaxParts {
		return nil, api.ErrMany
	}
	for _, p := range parts {
		if !isPart(p) {
			return nil, api.ErrType
		}
	}
	var b []byte
	for _, p := range parts {
		b = putPart(b, p)
		if len(b) > api.MaxKey {
			return nil, api.ErrLong
		}
	}
	return b, api.OK
}

// ReadKey is the parts whose bytes are b.
func ReadKey(b []byte) ([]api.Part, api.Errno) {
	if len(b) > api.MaxKey {
		return nil, api.ErrLong
	}
	r := keyReader{cursor: cursor{bytes: b}}
	if !r.readAll() {
		return nil, api.ErrCode
	}
	if len(r.parts) > api.MaxParts {
		return nil, api.ErrMany
	}
	return r.parts, api.OK
}

func isPart(p api.Part) bool {
	switch p.Kind {
	case api.PartNum:
		return p.S == ""
	case api.PartText:
		return p.N == 0
	}
	return false
}

// putPart writes into b, which must be the caller's own.
func putPart(b []byte, p api.Part) []byte {
	if p.Kind == api.PartNum {
		return putNumPart(b, p.N)
	}
	return putTextPart(b, p.S)
}

func putNumPart(b []byte, n uint64) []byte {
	b = append(b, numMark)
	for i := range numBytes {
		b = append(b, byte(n>>(byteBits*(numBytes-1-i))))
	}
	return b
}

func putTextPart(b []byte, s string) []byte {
	b = append(b, textMark)
	for i := range len(s) {
		b = append(b, s[i])
		if s[i] == 0 {
			b = append(b, nought)
		}
	}
	return append(b, 0, textEnd)
}

// keyReader reads part by part, with the steps of its cursor.
type keyReader struct {
	cursor
	parts []api.Part
}

// readAll goes on beyond MaxParts, since bytes that are no key's are told ahead of too many parts.
func (r *keyReader) readAll() bool {
	for !r.isEnd() {
		p, ok := r.part()
		if !ok {
			return false
		}
		r.parts = append(r.parts, p)
	}
	return true
}

func (r *keyReader) part() (api.Part, bool) {
	mark, _ := r.next()
	switch mark {
	case numMark:
		n, ok := r.numPart()
		return api.Part{Kind: api.PartNum, N: n}, ok
	case textMark:
		s, ok := r.textPart()
		return api.Part{Kind: api.PartText, S: s}, ok
	}
	return api.Part{}, false
}

func (r *keyReader) numPart() (uint64, bool) {
	piece, ok := r.take(numBytes)
	var n uint64
	for _, b := range piece {
		n = n<<byteBits | uint64(b)
	}
	return n, ok
}

func (r *keyReader) textPart() (string, bool) {
	var s []byte
	for {
		b, ok := r.next()
		if !ok {
			return "", false
		}
		if b == 0 {
			mark, _ := r.next()
			if mark == textEnd {
				return string(s), true
			}
			if mark != nought {
				return "", false
			}
		}
		s = append(s, b)
	}
}
