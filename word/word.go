// Package word is layer 1: bit fields of 64-bit words, rounding to powers of two, counting of bits. See shared/doc/01-word.md.
package word

import "hayward/api"

// size is how many bits a word has.
const size = 64

// A field is the n bits of a word from bit lo on.
type field struct {
	lo, n int
}

// valid doesn't add lo and n, because their sum may wrap round.
func (f field) valid() bool {
	return f.lo >= 0 && f.n >= 0 && f.n <= size-f.lo
}

// mask has the bits of a valid field set; a shift by 64 leaves nothing, so a field of all bits needs no case of its own.
func (f field) mask() uint64 {
	return (1<<f.n - 1) << f.lo
}

// A step is the distance between the multiples that a word is rounded to.
type step uint64

// power: only with a single bit set do the bits below it hold exactly what exceeds a multiple.
func (s step) power() bool {
	return Ones(uint64(s)) == 1
}

// demand is the error of an argument that has to pass a test.
func demand(passes func() bool) api.Errno {
	if passes() {
		return api.OK
	}
	return api.ErrArg
}

// Take takes a field of bits.
func Take(w uint64, lo, n int) (uint64, api.Errno) {
	f := field{lo, n}
	if e := demand(f.valid); e != api.OK {
		return 0, e
	}
	return (w & f.mask()) >> lo, api.OK
}

// Put lays a field of bits.
func Put(w uint64, lo, n int, v uint64) (uint64, api.Errno) {
	f := field{lo, n}
	if e := demand(f.valid); e != api.OK {
		return 0, e
	}
	if v>>n != 0 {
		return 0, api.ErrArg
	}
	return w&^f.mask() | v<<lo, api.OK
}

// Down rounds to the multiple of a power of two that is not above x.
func Down(x, to uint64) (uint64, api.Errno) {
	if e := demand(step(to).power); e != api.OK {
		return 0, e
	}
	return x &^ (to - 1), api.OK
}

// Up rounds to the multiple of a power of two that is not below x.
func Up(x, to uint64) (uint64, api.Errno) {
	below, e := Down(x, to)
	if e != api.OK || below == x {
		return below, e
	}
	above := below + to
	if above == 0 { // the next multiple is 2^64, which is no word
		return 0, api.ErrArg
	}
	return above, api.OK
}

// Ones is how many bits are set.
func Ones(w uint64) int {
	ones := 0
	for i := range size {
		if w>>i&1 == 1 {
			ones++
		}
	}
	return ones
}

// First is the lowest bit that is not set, 64 if all are.
func First(w uint64) int {
	for i := range size {
		if w>>i&1 == 0 {
			return i
		}
	}
	return size
}
