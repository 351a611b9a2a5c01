// Package word is layer 1: words and bytes, rotation, selection, comparison and padding: see shared/doc/01-word.md.
package word

import "hypogeum/api"

const (
	wordBytes = 4
	longBytes = 8
	wordBits  = 32
	maxSize   = 4096
)

// Load returns the word that four bytes encode, big-endian, or little-endian if low is set.
func Load(b []byte, low bool) (uint32, api.Errno) {
	if len(b) != wordBytes {
		return 0, api.ErrArg
	}
	w := uint32(0)
	for i := range wordBytes {
		w |= uint32(b[i]) << shift(i, low)
	}
	return w, api.OK
}

// Store returns the four bytes of a word, in the order that Load reads.
func Store(w uint32, low bool) []byte {
	b := make([]byte, wordBytes)
	for i := range wordBytes {
		b[i] = byte(w >> shift(i, low))
	}
	return b
}

// shift is how many bits of a word are below its byte i.
func shift(i int, low bool) int {
	if low {
		return 8 * i
	}
	return 8 * (wordBytes - 1 - i)
}

// Long returns the number that eight bytes encode, big-endian.
func Long(b []byte) (uint64, api.Errno) {
	if len(b) != longBytes {
		return 0, api.ErrArg
	}
	n := uint64(0)
	for i := range longBytes {
		n = n<<8 | uint64(b[i])
	}
	return n, api.OK
}

// Tell returns a number in eight bytes, big-endian.
func Tell(n uint64) []byte {
	b := make([]byte, longBytes)
	for i := range longBytes {
		b[i] = byte(n >> (8 * (longBytes - 1 - i)))
	}
	return b
}

// Turn returns w rotated left by n bits, n modulo 32.
func Turn(w uint32, n int) uint32 {
	// A negative n wraps to a number that is congruent to it modulo 32.
	left := uint(n) % wordBits
	return w<<left | w>>(wordBits-left)
}

// Choose returns a if bit is 0, and b otherwise.
func Choose(bit, a, b uint32) uint32 {
	// A branch on bit would leak it through timing; for every bit but 0, bit or -bit has the top bit set.
	mask := -((bit | -bit) >> (wordBits - 1))
	return a ^ (mask & (a ^ b))
}

// Same reports whether a and b have the same length and the same bytes.
func Same(a, b []byte) bool {
	if len(a) != len(b) {
		return false
	}
	// Stopping at the first difference would tell, through timing, where it is.
	diff := byte(0)
	for i := range len(a) {
		diff |= a[i] ^ b[i]
	}
	return diff == 0
}

// Fill returns b followed by zero bytes up to the next multiple of size.
func Fill(b []byte, size int) ([]byte, api.Errno) {
	if size < 1 || size > maxSize {
		return nil, api.ErrArg
	}
	zeros := (size - len(b)%size) % size
	out := make([]byte, len(b)+zeros)
	copy(out, b)
	return out, api.OK
}
