package word_test

import (
	"math"
	"math/bits"
	"testing"

	"hayward/api"
	"hayward/word"
)

// The signatures are part of the chapter.
var (
	_ func(w uint64, lo, n int) (uint64, api.Errno)           = word.Take
	_ func(w uint64, lo, n int, v uint64) (uint64, api.Errno) = word.Put
	_ func(x, to uint64) (uint64, api.Errno)                  = word.Down
	_ func(x, to uint64) (uint64, api.Errno)                  = word.Up
	_ func(w uint64) int                                      = word.Ones
	_ func(w uint64) int                                      = word.First
)

const all = math.MaxUint64

// samples are words with few, many and mixed bits.
var samples = []uint64{
	0, 1, 2, 7, 0xABCD, 0xFFFF, 1 << 31, 1 << 32, 1<<32 - 1, 1 << 63, 1<<63 - 1, 1<<63 + 1,
	0x5555555555555555, 0xAAAAAAAAAAAAAAAA, 0x0123456789ABCDEF, 0xFEDCBA9876543210,
	0x8000000000005005, 0x9E3779B97F4A7C15, all - 1, all,
}

// wrong are fields that are not valid.
var wrong = []struct{ lo, n int }{
	{-1, 0}, {-1, 1}, {-1, 64}, {-1, 65}, {0, -1}, {64, -1}, {65, -1}, {-64, 64}, {-64, 128},
	{0, 65}, {1, 64}, {60, 5}, {63, 2}, {64, 1}, {65, 0}, {128, 0}, {128, -64}, {32, 33},
	{math.MaxInt, 0}, {0, math.MaxInt}, {math.MinInt, 0}, {0, math.MinInt},
	// Their sums wrap round.
	{math.MaxInt, 1}, {1, math.MaxInt}, {math.MaxInt, math.MaxInt}, {math.MaxInt, 3},
	{64, math.MaxInt}, {math.MaxInt, 64}, {math.MinInt, math.MinInt}, {math.MinInt, -1}, {-1, math.MinInt},
	// Their sums are within a word.
	{math.MaxInt, math.MinInt}, {math.MinInt, math.MaxInt}, {math.MinInt + 64, math.MaxInt},
	// Cut to 32 bits, they would be valid.
	{1 << 32, 0}, {0, 1 << 32}, {1<<32 + 4, 8}, {4, 1<<32 + 8},
}

// fields calls visit with every valid field.
func fields(visit func(lo, n int)) {
	for lo := 0; lo <= 64; lo++ {
		for n := 0; n <= 64-lo; n++ {
			visit(lo, n)
		}
	}
}

// bit is bit i of w.
func bit(w uint64, i int) uint64 {
	return w >> i & 1
}

// takeBits takes a field bit by bit.
func takeBits(w uint64, lo, n int) uint64 {
	out := uint64(0)
	for i := 0; i < n; i++ {
		out |= bit(w, lo+i) << i
	}
	return out
}

// putBits lays a field bit by bit.
func putBits(w uint64, lo, n int, v uint64) uint64 {
	out := uint64(0)
	for i := 0; i < 64; i++ {
		if i >= lo && i < lo+n {
			out |= bit(v, i-lo) << i
		} else {
			out |= bit(w, i) << i
		}
	}
	return out
}

// P1.1: the chapter's examples, and fields at a word's borders.
func TestTakeExamples(t *testing.T) {
	for _, c := range []struct {
		w     uint64
		lo, n int
		want  uint64
		e     api.Errno
	}{
		{0xABCD, 4, 8, 0xBC, api.OK},
		{1, 60, 5, 0, api.ErrArg},
		{all, 0, 64, all, api.OK},
		{all, 63, 1, 1, api.OK},
		{1 << 63, 63, 1, 1, api.OK},
		{1 << 63, 60, 4, 8, api.OK},
		{1 << 63, 0, 63, 0, api.OK},
		{all, 64, 0, 0, api.OK},
		{all, 0, 0, 0, api.OK},
		{all, 17, 0, 0, api.OK},
		{all, 1, 63, 1<<63 - 1, api.OK},
		{all, 1, 64, 0, api.ErrArg},
	} {
		if got, e := word.Take(c.w, c.lo, c.n); got != c.want || e != c.e {
			t.Errorf("Take(%#x, %d, %d): %#x, %d; want %#x, %d", c.w, c.lo, c.n, got, e, c.want, c.e)
		}
	}
}

// P1.1: the chapter's examples, and values at their fields' borders.
func TestPutExamples(t *testing.T) {
	for _, c := range []struct {
		w     uint64
		lo, n int
		v     uint64
		want  uint64
		e     api.Errno
	}{
		{0xFFFF, 4, 8, 0, 0xF00F, api.OK},
		{0, 0, 4, 16, 0, api.ErrArg},
		{0, 0, 4, 15, 15, api.OK},
		{0, 60, 4, 15, 15 << 60, api.OK},
		{0, 60, 4, 16, 0, api.ErrArg},
		{all, 60, 4, 0, 1<<60 - 1, api.OK},
		{0x1234, 0, 64, all, all, api.OK},
		{all, 0, 64, 0, 0, api.OK},
		{5, 64, 0, 0, 5, api.OK},
		{5, 64, 0, 1, 0, api.ErrArg},
		{5, 3, 0, 0, 5, api.OK},
		{5, 3, 0, 1, 0, api.ErrArg},
		{5, 0, 0, all, 0, api.ErrArg},
		{0, 1, 63, 1 << 63, 0, api.ErrArg},
		{0, 1, 63, 1<<63 - 1, all - 1, api.OK},
		{0, 60, 5, 1, 0, api.ErrArg},
		{0, 0, 1, all, 0, api.ErrArg},
	} {
		if got, e := word.Put(c.w, c.lo, c.n, c.v); got != c.want || e != c.e {
			t.Errorf("Put(%#x, %d, %d, %#x): %#x, %d; want %#x, %d", c.w, c.lo, c.n, c.v, got, e, c.want, c.e)
		}
	}
}

// P1.1, R1, R2, R6: a field that is not valid is refused without a panic, with nothing beside the error.
func TestWrongFields(t *testing.T) {
	for _, f := range wrong {
		for _, w := range samples {
			if got, e := word.Take(w, f.lo, f.n); got != 0 || e != api.ErrArg {
				t.Errorf("Take(%#x, %d, %d): %#x, %d", w, f.lo, f.n, got, e)
			}
			for _, v := range []uint64{0, 1, all} {
				if got, e := word.Put(w, f.lo, f.n, v); got != 0 || e != api.ErrArg {
					t.Errorf("Put(%#x, %d, %d, %#x): %#x, %d", w, f.lo, f.n, v, got, e)
				}
			}
		}
	}
}

// P1.1: every valid field of every sample, held against bits that are moved one by one.
func TestEveryField(t *testing.T) {
	fields(func(lo, n int) {
		for _, w := range samples {
			if got, e := word.Take(w, lo, n); got != takeBits(w, lo, n) || e != api.OK {
				t.Fatalf("Take(%#x, %d, %d): %#x, %d", w, lo, n, got, e)
			}
			for _, x := range samples {
				v := takeBits(x, 0, n)
				if got, e := word.Put(w, lo, n, v); got != putBits(w, lo, n, v) || e != api.OK {
					t.Fatalf("Put(%#x, %d, %d, %#x): %#x, %d", w, lo, n, v, got, e)
				}
			}
		}
	})
}

// P1.1, R2: a value with one bit at position n or above does not fit, whatever its other bits are.
func TestValuesThatDoNotFit(t *testing.T) {
	fields(func(lo, n int) {
		for i := n; i < 64; i++ {
			for _, low := range []uint64{0, takeBits(all, 0, n)} {
				if got, e := word.Put(0xABCD, lo, n, 1<<i|low); got != 0 || e != api.ErrArg {
					t.Fatalf("Put(0xABCD, %d, %d, %#x): %#x, %d", lo, n, 1<<i|low, got, e)
				}
			}
		}
	})
}

// P1.2: the chapter's examples, and words at the borders.
func TestRoundExamples(t *testing.T) {
	for _, c := range []struct {
		x, to    uint64
		down, up uint64
		de, ue   api.Errno
	}{
		{4097, 4096, 4096, 8192, api.OK, api.OK},
		{5, 3, 0, 0, api.ErrArg, api.ErrArg},
		{0, 4096, 0, 0, api.OK, api.OK},
		{1, 4096, 0, 4096, api.OK, api.OK},
		{4095, 4096, 0, 4096, api.OK, api.OK},
		{4096, 4096, 4096, 4096, api.OK, api.OK},
		{all, 1, all, all, api.OK, api.OK},
		{0, 1, 0, 0, api.OK, api.OK},
		{all, 2, all - 1, 0, api.OK, api.ErrArg},
		{all - 1, 2, all - 1, all - 1, api.OK, api.OK},
		{all - 4095, 4096, all - 4095, all - 4095, api.OK, api.OK},
		{all - 4094, 4096, all - 4095, 0, api.OK, api.ErrArg},
		{all, 4096, all - 4095, 0, api.OK, api.ErrArg},
		{1, 1 << 63, 0, 1 << 63, api.OK, api.OK},
		{1 << 63, 1 << 63, 1 << 63, 1 << 63, api.OK, api.OK},
		{1<<63 + 1, 1 << 63, 1 << 63, 0, api.OK, api.ErrArg},
		{0, 0, 0, 0, api.ErrArg, api.ErrArg},
		{all, 0, 0, 0, api.ErrArg, api.ErrArg},
		{0, all, 0, 0, api.ErrArg, api.ErrArg},
	} {
		if got, e := word.Down(c.x, c.to); got != c.down || e != c.de {
			t.Errorf("Down(%#x, %#x): %#x, %d; want %#x, %d", c.x, c.to, got, e, c.down, c.de)
		}
		if got, e := word.Up(c.x, c.to); got != c.up || e != c.ue {
			t.Errorf("Up(%#x, %#x): %#x, %d; want %#x, %d", c.x, c.to, got, e, c.up, c.ue)
		}
	}
}

// rounded holds both roundings of x against division; the greatest multiple of a power below 2^64 is 2^64 less the power.
func rounded(t *testing.T, x, to uint64) {
	t.Helper()
	down, up, fault := x-x%to, x-x%to, api.OK
	if x%to != 0 {
		up += to
	}
	if x > all-to+1 {
		up, fault = 0, api.ErrArg
	}
	if got, e := word.Down(x, to); got != down || e != api.OK {
		t.Errorf("Down(%#x, %#x): %#x, %d; want %#x", x, to, got, e, down)
	}
	if got, e := word.Up(x, to); got != up || e != fault {
		t.Errorf("Up(%#x, %#x): %#x, %d; want %#x, %d", x, to, got, e, up, fault)
	}
}

// P1.2: every power, at the samples and round its first and last multiples.
func TestEveryPower(t *testing.T) {
	for i := 0; i < 64; i++ {
		to := uint64(1) << i
		last := -to
		for _, x := range append([]uint64{to - 1, to, to + 1, 2 * to, 3*to - 1, 3*to + 1, last - 1, last, last + 1}, samples...) {
			rounded(t, x, to)
		}
	}
}

// P1.2, R2: with no bit set or with several there is no power.
func TestNoPower(t *testing.T) {
	refused := []uint64{0}
	for i := 0; i < 64; i++ {
		for j := 0; j < i; j++ {
			refused = append(refused, 1<<i|1<<j, 1<<i-1<<j|1<<i)
		}
	}
	refused = append(refused, 7, 100, 4095, 4097, 1<<63+1, all-1, all)
	for _, to := range refused {
		if bits.OnesCount64(to) == 1 {
			t.Fatalf("%#x is a power", to)
		}
		for _, x := range samples {
			if got, e := word.Down(x, to); got != 0 || e != api.ErrArg {
				t.Fatalf("Down(%#x, %#x): %#x, %d", x, to, got, e)
			}
			if got, e := word.Up(x, to); got != 0 || e != api.ErrArg {
				t.Fatalf("Up(%#x, %#x): %#x, %d", x, to, got, e)
			}
		}
	}
}

// P1.3: the chapter's example, and the words with no bit and with all bits set.
func TestCountExamples(t *testing.T) {
	for _, c := range []struct {
		w           uint64
		ones, first int
	}{
		{7, 3, 3},
		{0, 0, 0},
		{all, 64, 64},
		{all - 1, 63, 0},
		{1<<63 - 1, 63, 63},
		{1 << 63, 1, 0},
		{1, 1, 1},
		{0xB, 3, 2},
		{0xFFFFFFFF, 32, 32},
		{all &^ (1 << 31), 63, 31},
	} {
		if got := word.Ones(c.w); got != c.ones {
			t.Errorf("Ones(%#x): %d; want %d", c.w, got, c.ones)
		}
		if got := word.First(c.w); got != c.first {
			t.Errorf("First(%#x): %d; want %d", c.w, got, c.first)
		}
	}
}

// P1.3: the samples, and all words with one bit set, one bit clear, or their lowest bits set.
func TestCounts(t *testing.T) {
	words := append([]uint64{}, samples...)
	for i := 0; i < 64; i++ {
		words = append(words, 1<<i, ^uint64(1<<i), 1<<i-1, 1<<i-1|1<<63)
	}
	for _, w := range words {
		if got := word.Ones(w); got != bits.OnesCount64(w) {
			t.Errorf("Ones(%#x): %d", w, got)
		}
		if got := word.First(w); got != bits.TrailingZeros64(^w) {
			t.Errorf("First(%#x): %d", w, got)
		}
	}
}

// others takes every field that has no bit in common with the one from lo on, and wants it unchanged.
func others(t *testing.T, before, after uint64, lo, n int) {
	t.Helper()
	fields(func(other, many int) {
		if n > 0 && many > 0 && other < lo+n && lo < other+many {
			return
		}
		was, e1 := word.Take(before, other, many)
		is, e2 := word.Take(after, other, many)
		if was != is || e1 != api.OK || e2 != api.OK {
			t.Fatalf("put at %d, %d: field %d, %d was %#x, %d and is %#x, %d", lo, n, other, many, was, e1, is, e2)
		}
	})
}

// P1.4: what was put is taken, and all fields beside it stay.
func TestPutThenTake(t *testing.T) {
	const w, x = 0x9E3779B97F4A7C15, 0xAAAAAAAAAAAAAAAA
	fields(func(lo, n int) {
		v := takeBits(x, 0, n)
		after, e := word.Put(w, lo, n, v)
		if e != api.OK {
			t.Fatalf("Put(%#x, %d, %d, %#x): %d", uint64(w), lo, n, v, e)
		}
		if got, e := word.Take(after, lo, n); got != v || e != api.OK {
			t.Fatalf("Take(%#x, %d, %d): %#x, %d; want %#x", after, lo, n, got, e, v)
		}
		others(t, w, after, lo, n)
	})
}

// R4: an answer depends on nothing but the arguments, also not on a call that failed before.
func TestNothingIsKept(t *testing.T) {
	for range 2 {
		for _, w := range samples {
			word.Put(w, 0, 64, all)
			word.Put(w, -1, 3, w)
			word.Up(w, 1<<63)
			word.Down(w, 0)
			if got, e := word.Take(0xABCD, 4, 8); got != 0xBC || e != api.OK {
				t.Errorf("Take: %#x, %d", got, e)
			}
			if got, e := word.Up(4097, 4096); got != 8192 || e != api.OK {
				t.Errorf("Up: %d, %d", got, e)
			}
		}
	}
}
