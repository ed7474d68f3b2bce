// Package word is layer 1: words of 32 bits; see shared/doc/01-word.md.
package word

import (
	"iter"

	"carryall/api"
)

const (
	size   = 4  // bytes of a word
	width  = 32 // bits of a word
	digit  = 4  // bits of a hexadecimal digit
	places = width / digit
	digits = "0123456789abcdef"
)

// quad holds a word's bytes, the lowest first.
type quad [size]byte

func split(w uint32) quad {
	return quad{byte(w), byte(w >> 8), byte(w >> 16), byte(w >> 24)}
}

func join(q quad) uint32 {
	return uint32(q[0]) | uint32(q[1])<<8 | uint32(q[2])<<16 | uint32(q[3])<<24
}

// quads tells bytes four by four, each time with how many there were: the last ones may be fewer, and it is the caller's to refuse them.
func quads(b []byte) iter.Seq2[int, quad] {
	return func(yield func(int, quad) bool) {
		for from := 0; from < len(b); from += size {
			var q quad
			n := copy(q[:], b[from:])
			if !yield(n, q) {
				return
			}
		}
	}
}

// Bytes are a word's.
func Bytes(w uint32) []byte {
	return All([]uint32{w})
}

// Read is bytes' word.
func Read(b []byte) (uint32, api.Errno) {
	if len(b) != size {
		return 0, api.ErrWord
	}
	var q quad
	copy(q[:], b)
	return join(q), api.OK
}

// All are words' bytes.
func All(l []uint32) []byte {
	b := make([]byte, 0, size*len(l))
	for _, w := range l {
		q := split(w)
		b = append(b, q[:]...)
	}
	return b
}

// Words are bytes'.
func Words(b []byte) ([]uint32, api.Errno) {
	l := make([]uint32, 0, len(b)/size)
	e := api.OK
reading:
	for n, q := range quads(b) {
		switch n {
		case size:
			l = append(l, join(q))
		default:
			l, e = nil, api.ErrWord
			break reading
		}
	}
	return l, e
}

// isField looks at from and bits one by one first: their sum alone could wrap round.
func isField(from, bits int) bool {
	return isCount(bits) && from >= 0 && from < width && from+bits <= width
}

func isCount(bits int) bool {
	return bits >= 1 && bits <= width
}

// most is the greatest number of so many bits, which has each of them.
func most(bits int) uint32 {
	return ^uint32(0) >> (width - bits)
}

// Field is a field's number.
func Field(w uint32, from, bits int) (uint32, api.Errno) {
	if !isField(from, bits) {
		return 0, api.ErrArg
	}
	return w >> from & most(bits), api.OK
}

// Put gives a field a number.
func Put(w uint32, from, bits int, v uint32) (uint32, api.Errno) {
	if !isField(from, bits) {
		return 0, api.ErrArg
	}
	if v > most(bits) {
		return 0, api.ErrWord
	}
	return w&^(most(bits)<<from) | v<<from, api.OK
}

// Sign is the number with a sign that lowest bits are.
func Sign(w uint32, bits int) (int32, api.Errno) {
	if !isCount(bits) {
		return 0, api.ErrArg
	}
	// A number with a sign is shifted right with copies of its highest bit: that one has to be the field's.
	above := width - bits
	return int32(w<<above) >> above, api.OK
}

// Text is a word's.
func Text(w uint32) string {
	var t [places]byte
	for i := range t {
		t[i] = digits[w>>(width-digit*(i+1))&(1<<digit-1)]
	}
	return string(t[:])
}

// Parse is a text's word.
func Parse(s string) (uint32, api.Errno) {
	if len(s) != places {
		return 0, api.ErrWord
	}
	w := uint32(0)
	for i := range len(s) {
		v, ok := value(s[i])
		if !ok {
			return 0, api.ErrWord
		}
		w = w<<digit | v
	}
	return w, api.OK
}

// value is a digit's; capital letters are none, so that each word has one text.
func value(c byte) (uint32, bool) {
	switch {
	case c >= '0' && c <= '9':
		return uint32(c - '0'), true
	case c >= 'a' && c <= 'f':
		return uint32(c-'a') + 10, true
	}
	return 0, false
}
