// Package base is layer 2: bytes as letters (RFC 4648).
package base

import (
	"math"
	"strings"

	"cashier/api"
)

const (
	hexLetters  = "0123456789abcdef"
	wordLetters = "ABCDEFGHIJKLMNOPQRSTUVWXYZabcdefghijklmnopqrstuvwxyz0123456789"
	filler      = '='
	groupBytes  = 3 // their 24 bits are whole letters, of four bits or of six
)

// Alphabet is letters for bits; the zero Alphabet has none.
type Alphabet struct {
	letters string
	bits    int // of one letter
	fill    bool
}

// Hex is base 16.
func Hex() Alphabet { return Alphabet{letters: hexLetters, bits: 4} }

// Std is base 64, filled up.
func Std() Alphabet { return Alphabet{letters: wordLetters + "+/", bits: 6, fill: true} }

// URL is base 64 for URLs.
func URL() Alphabet { return Alphabet{letters: wordLetters + "-_", bits: 6} }

// Letters gives all letters in order.
func (a Alphabet) Letters() string { return a.letters }

// Size tells how many letters n bytes have, or the greatest int where they
// have more.
func (a Alphabet) Size(n int) int {
	if a.bits == 0 || n < 1 {
		return 0
	}
	groups, rest := n/groupBytes, n%groupBytes
	groupLetters := groupBytes * 8 / a.bits
	tail := (rest*8 + a.bits - 1) / a.bits
	if a.fill && rest > 0 {
		tail = groupLetters
	}
	if groups > (math.MaxInt-tail)/groupLetters {
		return math.MaxInt
	}
	return groups*groupLetters + tail
}

// Encode gives the letters of the text's bits.
func (a Alphabet) Encode(s string) string {
	if a.bits == 0 {
		return ""
	}
	size := a.Size(len(s))
	out := make([]byte, 0, size)
	held, count := 0, 0 // bits that aren't letters yet
	for i := range len(s) {
		held, count = held<<8|int(s[i]), count+8
		for count >= a.bits {
			count -= a.bits
			out = append(out, a.letters[held>>count])
			held &= 1<<count - 1
		}
	}
	if count > 0 {
		out = append(out, a.letters[held<<(a.bits-count)])
	}
	for len(out) < size {
		out = append(out, filler)
	}
	return string(out)
}

// Decode gives the text of which t is the writing.
func (a Alphabet) Decode(t string) (string, api.Errno) {
	s := a.bytesOf(t)
	// What stands behind the letters, and bits that are left over, are right
	// only if they are as Encode writes them.
	if a.Encode(s) != t {
		return "", api.ErrForm
	}
	return s, api.OK
}

// bytesOf gives the whole bytes of the letters that t begins with.
func (a Alphabet) bytesOf(t string) string {
	var out []byte
	held, count := 0, 0 // bits that aren't a byte yet
letters:
	for i := range len(t) {
		value := strings.IndexByte(a.letters, t[i])
		switch {
		case value < 0:
			break letters
		case count+a.bits < 8:
			held, count = held<<a.bits|value, count+a.bits
		default:
			count += a.bits - 8
			held = held<<a.bits | value
			out = append(out, byte(held>>count))
			held &= 1<<count - 1
		}
	}
	return string(out)
}
