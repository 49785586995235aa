package codec

import "lading/api"

// Entries is the bytes of l.
func Entries(l []api.Entry) ([]byte, api.Errno) {
	if len(l) > api.MaxList {
		return nil, api.ErrMany
	}
	for _, e := range l {
		if len(e.Key) > api.MaxKey || len(e.Val) > api.MaxValue {
			return nil, api.ErrLong
		}
	}
	b := putNum(nil, uint64(len(l)))
	for _, e := range l {
		b = putText(putText(b, e.Key), e.Val)
	}
	return b, api.OK
}

// ReadEntries is the entries whose bytes are b.
func ReadEntries(b []byte) ([]api.Entry, api.Errno) {
	c := cursor{bytes: b}
	n, ok := c.num()
	if !ok {
		return nil, api.ErrCode
	}
	if n > api.MaxList {
		return nil, api.ErrMany
	}
	var l []api.Entry
	for range n {
		e, why := c.entry()
		if why != api.OK {
			return nil, why
		}
		l = append(l, e)
	}
	if !c.isEnd() {
		return nil, api.ErrCode
	}
	return l, api.OK
}

func (c *cursor) entry() (api.Entry, api.Errno) {
	key, why := c.text(api.MaxKey)
	if why != api.OK {
		return api.Entry{}, why
	}
	val, why := c.text(api.MaxValue)
	if why != api.OK {
		return api.Entry{}, why
	}
	return api.Entry{Key: key, Val: val}, api.OK
}
