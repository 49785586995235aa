// Package crc has the checksum of all frames: see ../../shared/DOC.md and doc/02-crc.md.
package crc

import "lading/api"

const (
	polynomial uint32 = 0xEDB88320
	one        uint32 = 1 << 31 // bits being turned round, the highest one is the polynomial 1
	trailer           = 4       // bytes of a checksum behind a text
)

// Of is a checksum.
func Of(b []byte) uint32 { return Update(0, b) }

// Update goes on with one.
func Update(sum uint32, b []byte) uint32 {
	table := nibbles()
	c := ^sum
	for _, x := range b {
		c ^= uint32(x)
		c = c>>4 ^ table[c&15]
		c = c>>4 ^ table[c&15]
	}
	return ^c
}

// Combine puts two together, the second one being that of n bytes.
func Combine(a, b uint32, n int) (uint32, api.Errno) {
	if n < 0 || int64(n) > 1<<31 {
		return 0, api.ErrRange
	}
	return times(a, shifts(n)) ^ b, api.OK
}

// Seal puts a checksum behind bytes.
func Seal(b []byte) []byte {
	sum := Of(b)
	sealed := make([]byte, len(b), len(b)+trailer)
	copy(sealed, b)
	for i := range trailer {
		sealed = append(sealed, byte(sum>>(8*i)))
	}
	return sealed
}

// Open takes it away.
func Open(b []byte) ([]byte, api.Errno) {
	if len(b) < trailer {
		return nil, api.ErrCode
	}
	text, end := b[:len(b)-trailer], b[len(b)-trailer:]
	sum := Of(text)
	for i := range trailer {
		if end[i] != byte(sum>>(8*i)) {
			return nil, api.ErrCode
		}
	}
	return append([]byte(nil), text...), api.OK
}

// shift is one step: a bit goes out, which is, of polynomials, to multiply by x.
func shift(c uint32) uint32 {
	if c&1 == 1 {
		return c>>1 ^ polynomial
	}
	return c >> 1
}

// nibbles is what four steps make of each four bits. A table of so few is made faster than one of all bytes, and texts are short.
func nibbles() [16]uint32 {
	var table [16]uint32
	for i := range uint32(16) {
		c := i
		for range 4 {
			c = shift(c)
		}
		table[i] = c
	}
	return table
}

// times is a times b, as polynomials by the rest that the checksum's own leaves.
func times(a, b uint32) uint32 {
	var product uint32
	for i := range 32 {
		if a&(one>>i) != 0 {
			product ^= b
		}
		b = shift(b)
	}
	return product
}

// shifts is by what 8 n steps multiply: squaring takes 32 rounds where stepping would take 2^34.
func shifts(n int) uint32 {
	factor, power := one, one>>8
	for n > 0 {
		if n&1 == 1 {
			factor = times(factor, power)
		}
		power = times(power, power)
		n >>= 1
	}
	return factor
}
