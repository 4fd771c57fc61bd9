// Package octet is layer 1: numbers as bytes, the highest first, and a sum
// of 32 bits.
package octet

import (
	"iter"
	"math"

	"cashier/api"
)

const (
	maxSize    = 8          // bytes of the greatest number
	lengthSize = 4          // bytes that tell a counted text's length
	polynomial = 0xedb88320 // IEEE's, the lowest bit first
)

// Put gives the number's lowest size bytes, the highest of them first.
func Put(n uint64, size int) string {
	size = min(max(size, 0), maxSize)
	b := make([]byte, size)
	for i := range size {
		b[size-1-i] = byte(n)
		n >>= 8
	}
	return string(b)
}

// Get gives the number of 1 to 8 bytes.
func Get(s string) (uint64, api.Errno) {
	if len(s) == 0 {
		return 0, api.ErrShort
	}
	if len(s) > maxSize {
		return 0, api.ErrLong
	}
	return number(s), api.OK
}

func number(s string) uint64 {
	var n uint64
	for i := range len(s) {
		n = n<<8 | uint64(s[i])
	}
	return n
}

// Add gives the sum, or the greatest number where the sum is beyond it.
func Add(a, b uint64) uint64 {
	if a > math.MaxUint64-b {
		return math.MaxUint64
	}
	return a + b
}

// Mul gives the product, or the greatest number where it is beyond it.
func Mul(a, b uint64) uint64 {
	if b != 0 && a > math.MaxUint64/b {
		return math.MaxUint64
	}
	return a * b
}

// Table gives at each byte what eight steps of the CRC make of it.
func Table() [256]uint32 {
	var table [256]uint32
	for i := range table {
		table[i] = eightSteps(uint32(i))
	}
	return table
}

func eightSteps(c uint32) uint32 {
	for range 8 {
		low := c & 1
		c >>= 1
		if low == 1 {
			c ^= polynomial
		}
	}
	return c
}

// CRC gives the CRC-32 of the parts, one behind the other.
func CRC(parts ...string) uint32 {
	table := Table()
	c := ^uint32(0)
	for _, part := range parts {
		for i := range len(part) {
			c = c>>8 ^ table[byte(c)^part[i]]
		}
	}
	return ^c
}

// Counted gives the text behind its length.
func Counted(s string) string {
	return Put(uint64(len(s)), lengthSize) + s
}

// Cut gives the bytes of the counted text that s begins with, and the rest.
func Cut(s string) (string, string, api.Errno) {
	if len(s) < lengthSize {
		return "", "", api.ErrShort
	}
	told, rest := number(s[:lengthSize]), s[lengthSize:]
	// Held against each other as uint64: an int may be too small for what
	// four bytes tell.
	if told > uint64(len(rest)) {
		return "", "", api.ErrShort
	}
	return rest[:told], rest[told:], api.OK
}

// Parts goes through the counted texts as long as there are whole ones.
func Parts(s string) iter.Seq[string] {
	return func(yield func(string) bool) {
		// A copy, so that each time all is gone through from the start.
		left := s
		for {
			part, rest, err := Cut(left)
			if err != api.OK || !yield(part) {
				return
			}
			left = rest
		}
	}
}
