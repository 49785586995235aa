package codec

import "lading/api"

const (
	groupBits = 7
	lowBits   = 1<<groupBits - 1
	goesOn    = 1 << groupBits // in all bytes of a number but the last one
	wordBits  = 64
)

// cursor goes through bytes, which it neither changes nor hands out.
type cursor struct {
	bytes []byte
	at    int
}

func (c *cursor) isEnd() bool {
	return c.at == len(c.bytes)
}

func (c *cursor) next() (byte, bool) {
	if c.isEnd() {
		return 0, false
	}
	c.at++
	return c.bytes[c.at-1], true
}

// take is a copy of the next n bytes, if there are so many.
func (c *cursor) take(n int) ([]byte, bool) {
	if n > len(c.bytes)-c.at {
		return nil, false
	}
	piece := make([]byte, n)
	copy(piece, c.bytes[c.at:])
	c.at += n
	return piece, true
}

func (c *cursor) rest() []byte {
	all, _ := c.take(len(c.bytes) - c.at)
	return all
}

// num takes a number in its one form alone: a group of noughts at its end, or a bit beyond the word, would be a second one.
func (c *cursor) num() (uint64, bool) {
	var n uint64
	for shift := 0; shift < wordBits; shift += groupBits {
		b, ok := c.next()
		if !ok {
			return 0, false
		}
		group := uint64(b & lowBits)
		if group<<shift>>shift != group {
			return 0, false
		}
		n |= group << shift
		if b < goesOn {
			return n, b > 0 || shift == 0
		}
	}
	return 0, false
}

// text takes a length and so many bytes; a length above most is told ahead of whether the bytes are there.
func (c *cursor) text(most uint64) ([]byte, api.Errno) {
	n, ok := c.num()
	if !ok {
		return nil, api.ErrCode
	}
	if n > most {
		return nil, api.ErrLong
	}
	s, ok := c.take(int(n))
	if !ok {
		return nil, api.ErrCode
	}
	return s, api.OK
}
