package share_test

import (
	"math"
	"math/big"
	"slices"
	"testing"

	"hayward/api"
	"hayward/share"
)

// The signatures are part of the chapter.
var (
	_ func(x float64) int                              = share.Class
	_ func(a, b float64) int                           = share.Compare
	_ func(x, lo, hi float64) (float64, api.Errno)     = share.Clamp
	_ func(avg, x float64, n int) (float64, api.Errno) = share.Decay
	_ func(nice int) (float64, api.Errno)              = share.Weight
	_ func(i int, l ...float64) (float64, api.Errno)   = share.Share
	_ func(p float64, l ...float64) (int, api.Errno)   = share.Choose
)

const (
	most  = math.MaxFloat64
	least = math.SmallestNonzeroFloat64
	tiny  = 0x1p-1022 // the smallest number that isn't subnormal
	half  = 0x1p-53   // half of the distance from 1 to the next number
)

var (
	inf     = math.Inf(1)
	negZero = math.Copysign(0, -1)
	below1  = math.Nextafter(1, 0)
)

// nans are NaNs that are quiet, signalling, of both signs, with few and with all bits.
var nans = []float64{
	math.NaN(),
	math.Float64frombits(0x7FF8000000000000),
	math.Float64frombits(0x7FF0000000000001),
	math.Float64frombits(0x7FF4000000000000),
	math.Float64frombits(0x7FFFFFFFFFFFFFFF),
	math.Float64frombits(0xFFF8000000000000),
	math.Float64frombits(0xFFF0000000000001),
	math.Float64frombits(0xFFFFFFFFFFFFFFFF),
}

// row is numbers in the order; no two of them are equal in it.
var row = []float64{
	-inf,
	-most, math.Nextafter(-most, 0), -1e300, -3, -2, -1.5, -1, -below1, -0.5, -0.1,
	-math.Nextafter(tiny, 1), -tiny, math.Nextafter(-tiny, 0), -1e-320, -2 * least, -least,
	negZero,
	0,
	least, 2 * least, 1e-320, math.Nextafter(tiny, 0), tiny, math.Nextafter(tiny, 1),
	0.1, 0.5, below1, 1, math.Nextafter(1, 2), 1.5, 2, 3, 1e300, math.Nextafter(most, 0), most,
	inf,
}

// samples are the row's numbers and all NaNs.
var samples = append(slices.Clone(row), nans...)

// noWeights are numbers of each class that is no weight.
var noWeights = append([]float64{-inf, -most, -1, -tiny, -least, negZero, 0, inf}, nans...)

// noParts are numbers that Choose refuses as its first.
var noParts = append([]float64{-inf, -most, -1, -0.5, -tiny, -least, 1, math.Nextafter(1, 2), 2, most, inf}, nans...)

// same holds two numbers against each other by their bits; all NaNs are one.
func same(a, b float64) bool {
	return math.Float64bits(a) == math.Float64bits(b) || math.IsNaN(a) && math.IsNaN(b)
}

// classOf finds a class by the bits: the sign, the exponent, the rest.
func classOf(x float64) int {
	b := math.Float64bits(x)
	sign, exponent, rest := b>>63, b>>52&0x7FF, b&(1<<52-1)
	below := 4
	switch {
	case exponent == 0x7FF && rest != 0:
		return 7
	case exponent == 0x7FF:
		below = 6
	case exponent != 0 || rest != 0:
		below = 5
	}
	if sign == 1 {
		return 7 - below
	}
	return below
}

// rank is an integer that grows with the order: bits of positive numbers grow with them.
func rank(x float64) int64 {
	if math.IsNaN(x) {
		return math.MaxInt64
	}
	if b := math.Float64bits(x); b>>63 == 1 {
		return -1 - int64(b&^(1<<63))
	}
	return int64(math.Float64bits(x))
}

func compareOf(a, b float64) int {
	switch c, d := rank(a), rank(b); {
	case c < d:
		return -1
	case c > d:
		return 1
	}
	return 0
}

// clampOf is the chapter's sentence in the words of the ranks.
func clampOf(x, lo, hi float64) (float64, api.Errno) {
	if math.IsNaN(lo) || math.IsNaN(hi) || rank(lo) > rank(hi) {
		return 0, api.ErrArg
	}
	if math.IsNaN(x) || rank(x) < rank(lo) {
		return lo, api.OK
	}
	if rank(x) > rank(hi) {
		return hi, api.OK
	}
	return x, api.OK
}

func exact(x float64) *big.Rat {
	return new(big.Rat).SetFloat64(x)
}

// rounded is the number next to an exact one; exact ones know no negative nought, so TestDecayZeros looks at those.
func rounded(x *big.Rat) float64 {
	f, _ := x.Float64()
	return f
}

func times(a, b float64) float64 {
	return rounded(new(big.Rat).Mul(exact(a), exact(b)))
}

func over(a, b float64) float64 {
	return rounded(new(big.Rat).Quo(exact(a), exact(b)))
}

func plus(a, b float64) float64 {
	return rounded(new(big.Rat).Add(exact(a), exact(b)))
}

func weight(x float64) bool {
	return x > 0 && x <= most
}

// sums are the partial sums of weights; nil if one of them, or the last sum, is no weight.
func sums(l []float64) []float64 {
	var out []float64
	s := 0.0
	for _, x := range l {
		if !weight(x) {
			return nil
		}
		if s = plus(s, x); !weight(s) {
			return nil
		}
		out = append(out, s)
	}
	return out
}

func shareOf(i int, l []float64) (float64, api.Errno) {
	s := sums(l)
	if s == nil || i < 0 || i >= len(l) {
		return 0, api.ErrArg
	}
	return over(l[i], s[len(s)-1]), api.OK
}

func chooseOf(p float64, l []float64) (int, api.Errno) {
	s := sums(l)
	if s == nil || !(p >= 0 && p < 1) {
		return 0, api.ErrArg
	}
	bound := times(p, s[len(s)-1])
	for i, part := range s {
		if part > bound {
			return i, api.OK
		}
	}
	return len(l) - 1, api.OK
}

// TestClass: P3.1.
func TestClass(t *testing.T) {
	for want, l := range map[int][]float64{
		1: {-inf},
		2: {-most, -1, -0.5, -tiny, math.Nextafter(-tiny, 0), -least},
		3: {negZero},
		4: {0},
		5: {least, math.Nextafter(tiny, 0), tiny, 0.5, 1, most},
		6: {inf},
		7: nans,
	} {
		for _, x := range l {
			if got := share.Class(x); got != want {
				t.Errorf("Class(%v, %#x) = %d; want %d", x, math.Float64bits(x), got, want)
			}
		}
	}
	for _, x := range samples {
		if got := share.Class(x); got != classOf(x) {
			t.Errorf("Class(%v, %#x) = %d; want %d", x, math.Float64bits(x), got, classOf(x))
		}
	}
}

// TestClassPatterns: P3.1, at every sign, exponent and single bit.
func TestClassPatterns(t *testing.T) {
	for top := uint64(0); top < 1<<12; top++ {
		for _, rest := range []uint64{0, 1, 2, 1 << 51, 1<<51 + 1, 1<<52 - 1} {
			x := math.Float64frombits(top<<52 | rest)
			if got := share.Class(x); got != classOf(x) {
				t.Fatalf("Class(%v, %#x) = %d; want %d", x, math.Float64bits(x), got, classOf(x))
			}
		}
	}
}

// TestCompare: P3.1, in all pairs.
func TestCompare(t *testing.T) {
	for _, c := range []struct {
		a, b float64
		want int
	}{
		{negZero, 0, -1}, {0, negZero, 1}, {0, 0, 0}, {negZero, negZero, 0},
		{math.NaN(), inf, 1}, {inf, math.NaN(), -1}, {math.NaN(), -inf, 1}, {-inf, math.NaN(), -1},
		{inf, inf, 0}, {-inf, -inf, 0}, {-inf, inf, -1}, {inf, -inf, 1},
		{most, inf, -1}, {-inf, -most, -1}, {least, 0, 1}, {-least, negZero, -1},
		{1, 2, -1}, {2, 1, 1}, {-1, -2, 1}, {-2, -1, -1}, {-1, 1, -1}, {1, 1, 0}, {-1, -1, 0},
	} {
		if got := share.Compare(c.a, c.b); got != c.want {
			t.Errorf("Compare(%v, %v) = %d; want %d", c.a, c.b, got, c.want)
		}
	}
	for i, a := range row {
		for j, b := range row {
			want := 0
			if i < j {
				want = -1
			} else if i > j {
				want = 1
			}
			if got := share.Compare(a, b); got != want {
				t.Errorf("Compare(%v, %v) = %d; want %d", a, b, got, want)
			}
		}
		for _, n := range nans {
			if share.Compare(a, n) != -1 || share.Compare(n, a) != 1 {
				t.Errorf("Compare of %v and NaN %#x", a, math.Float64bits(n))
			}
		}
	}
	for _, a := range nans {
		for _, b := range nans {
			if got := share.Compare(a, b); got != 0 {
				t.Errorf("Compare of NaNs %#x, %#x = %d", math.Float64bits(a), math.Float64bits(b), got)
			}
		}
	}
}

// TestOrder: P3.7, the order is transitive (and one of three holds for each pair).
func TestOrder(t *testing.T) {
	for _, a := range samples {
		for _, b := range samples {
			ab := share.Compare(a, b)
			if ab != -share.Compare(b, a) || ab != compareOf(a, b) {
				t.Errorf("Compare(%v, %v) = %d", a, b, ab)
			}
			for _, c := range samples {
				if bc := share.Compare(b, c); ab <= 0 && bc <= 0 && share.Compare(a, c) != min(ab, bc) {
					t.Errorf("not transitive: %v, %v, %v", a, b, c)
				}
			}
		}
	}
}

// TestClamp: P3.2.
func TestClamp(t *testing.T) {
	nan := math.NaN()
	for _, c := range []struct {
		x, lo, hi, want float64
		e               api.Errno
	}{
		{nan, 1, 2, 1, api.OK},
		{0, 2, 1, 0, api.ErrArg},
		{0, 1, 2, 1, api.OK}, {1, 1, 2, 1, api.OK}, {1.5, 1, 2, 1.5, api.OK}, {2, 1, 2, 2, api.OK}, {3, 1, 2, 2, api.OK},
		{-inf, 1, 2, 1, api.OK}, {inf, 1, 2, 2, api.OK},
		{inf, -inf, inf, inf, api.OK}, {-inf, -inf, inf, -inf, api.OK}, {nan, -inf, inf, -inf, api.OK},
		{5, inf, inf, inf, api.OK}, {5, -inf, -inf, -inf, api.OK}, {5, inf, -inf, 0, api.ErrArg},
		{0, 3, 3, 3, api.OK}, {3, 3, 3, 3, api.OK}, {4, 3, 3, 3, api.OK}, {nan, 3, 3, 3, api.OK},
		{1, nan, 2, 0, api.ErrArg}, {1, 0, nan, 0, api.ErrArg}, {1, nan, nan, 0, api.ErrArg}, {nan, nan, nan, 0, api.ErrArg},
		// The two noughts differ.
		{negZero, 0, 1, 0, api.OK}, {0, -1, negZero, negZero, api.OK},
		{0, negZero, 0, 0, api.OK}, {negZero, negZero, 0, negZero, api.OK},
		{1, negZero, 0, 0, api.OK}, {-1, negZero, 0, negZero, api.OK}, {nan, negZero, 0, negZero, api.OK},
		{0, 0, negZero, 0, api.ErrArg}, {negZero, 0, negZero, 0, api.ErrArg}, {1, 0, negZero, 0, api.ErrArg},
		{0, negZero, negZero, negZero, api.OK}, {negZero, 0, 0, 0, api.OK},
	} {
		if got, e := share.Clamp(c.x, c.lo, c.hi); !same(got, c.want) || e != c.e {
			t.Errorf("Clamp(%v, %v, %v) = %v, %d; want %v, %d", c.x, c.lo, c.hi, got, e, c.want, c.e)
		}
	}
}

// TestClampAll: P3.2 in all triples, and P3.7: clamping again changes nothing.
func TestClampAll(t *testing.T) {
	for _, x := range samples {
		for _, lo := range samples {
			for _, hi := range samples {
				want, we := clampOf(x, lo, hi)
				got, e := share.Clamp(x, lo, hi)
				if !same(got, want) || e != we {
					t.Errorf("Clamp(%v, %v, %v) = %v, %d; want %v, %d", x, lo, hi, got, e, want, we)
				}
				if again, e := share.Clamp(got, lo, hi); we == api.OK && (!same(again, got) || e != api.OK) {
					t.Errorf("Clamp(%v, %v, %v) again = %v, %d", got, lo, hi, again, e)
				}
			}
		}
	}
}

// TestDecay: P3.3.
func TestDecay(t *testing.T) {
	nan := math.NaN()
	for _, c := range []struct {
		avg, x float64
		n      int
		want   float64
		e      api.Errno
	}{
		{8, 0, 2, 2, api.OK}, {0, 1, 65, 0, api.ErrArg}, {0, 1, -1, 0, api.ErrArg}, {8, 4, -1, 0, api.ErrArg}, {8, 4, 65, 0, api.ErrArg},
		{8, 4, math.MinInt, 0, api.ErrArg}, {8, 4, math.MaxInt, 0, api.ErrArg}, {8, 4, 1 << 32, 0, api.ErrArg}, {8, 4, 128, 0, api.ErrArg},
		{nan, inf, -1, 0, api.ErrArg}, {nan, inf, 65, 0, api.ErrArg},
		{8, 4, 0, 8, api.OK}, {8, 4, 1, 6, api.OK}, {8, 4, 2, 5, api.OK}, {8, -8, 1, 0, api.OK}, {-8, 0, 3, -1, api.OK},
		{1, 0, 64, 0x1p-64, api.OK}, {0, 1, 53, below1, api.OK}, {0, 1, 54, 1, api.OK}, {0, 1, 64, 1, api.OK},
		{0, 1, 1, 0.5, api.OK}, {1, 0, 1, 0.5, api.OK}, {0.625, 0, 1, 0.3125, api.OK},
		// With n of 0 nothing is reckoned.
		{nan, 4, 0, nan, api.OK}, {inf, -inf, 0, inf, api.OK}, {negZero, 1, 0, negZero, api.OK}, {3, nan, 0, 3, api.OK}, {least, 0, 0, least, api.OK},
		{nan, 4, 1, nan, api.OK}, {4, nan, 1, nan, api.OK}, {inf, -inf, 1, nan, api.OK}, {-inf, inf, 64, nan, api.OK},
		{inf, 4, 1, inf, api.OK}, {4, inf, 64, inf, api.OK}, {-inf, 4, 64, -inf, api.OK}, {4, -inf, 1, -inf, api.OK}, {inf, inf, 64, inf, api.OK},
		// Halved ahead of the sum, nothing overflows.
		{most, most, 1, most, api.OK}, {most, most, 64, most, api.OK}, {most, -most, 1, 0, api.OK},
		{most, 0, 1, most / 2, api.OK}, {-most, -most, 64, -most, api.OK},
		// Half of an odd number of the smallest is rounded to an even one, each by itself.
		{least, 0, 1, 0, api.OK}, {0, least, 1, 0, api.OK}, {least, least, 1, 0, api.OK}, {least, least, 64, 0, api.OK},
		{3 * least, 0, 1, 2 * least, api.OK}, {5 * least, 0, 1, 2 * least, api.OK},
		{3 * least, least, 1, 2 * least, api.OK}, {3 * least, 3 * least, 1, 4 * least, api.OK}, {3 * least, 3 * least, 2, 4 * least, api.OK},
		{5 * least, 5 * least, 1, 4 * least, api.OK}, {5 * least, 3 * least, 1, 4 * least, api.OK}, {7 * least, 0, 2, 2 * least, api.OK},
		// The sum is rounded, to an even one if two are as near.
		{2, 4 * half, 1, 1 + 2*half, api.OK}, {2, 2 * half, 1, 1, api.OK}, {2, 3 * half, 1, 1 + 2*half, api.OK}, {2 + 4*half, 2 * half, 1, 1 + 4*half, api.OK}, {2 + 4*half, half, 1, 1 + 2*half, api.OK},
	} {
		// The sign of a nought is not asked for here.
		if got, e := share.Decay(c.avg, c.x, c.n); !(same(got, c.want) || got == c.want) || e != c.e {
			t.Errorf("Decay(%v, %v, %d) = %v, %d; want %v, %d", c.avg, c.x, c.n, got, e, c.want, c.e)
		}
	}
}

// TestDecayZeros: P3.3 with noughts: a sum of noughts is negative only if both are.
func TestDecayZeros(t *testing.T) {
	for _, c := range []struct{ avg, x, want float64 }{
		{0, 0, 0}, {0, negZero, 0}, {negZero, 0, 0}, {negZero, negZero, negZero},
		{8, -8, 0}, {-8, 8, 0}, {-least, 0, 0}, {-least, negZero, negZero}, {-least, -least, negZero},
	} {
		if got, e := share.Decay(c.avg, c.x, 1); !same(got, c.want) || e != api.OK {
			t.Errorf("Decay(%v, %v, 1) = %v, %d; want %v", c.avg, c.x, got, e, c.want)
		}
	}
	if got, e := share.Decay(1, 2, 65); !same(got, 0) || e != api.ErrArg {
		t.Errorf("beside an error: %v, %d", got, e)
	}
}

// TestDecayExact: P3.3, every step by exact numbers that are rounded once.
func TestDecayExact(t *testing.T) {
	for _, a := range samples {
		for _, x := range samples {
			if math.IsNaN(a-a) || math.IsNaN(x-x) {
				continue
			}
			want := a
			for n := 0; n <= 64; n++ {
				if got, e := share.Decay(a, x, n); got != want || e != api.OK {
					t.Errorf("Decay(%v, %v, %d) = %v, %d; want %v", a, x, n, got, e, want)
				}
				want = plus(times(want, 0.5), times(x, 0.5))
			}
		}
	}
}

// TestWeight: P3.4, at every step.
func TestWeight(t *testing.T) {
	for nice, want := range map[int]float64{0: 1024, 1: 819.2, 2: 655.36, -1: 1280, -2: 1600, -20: 0x1p-30 * 95367431640625} {
		if got, e := share.Weight(nice); got != want || e != api.OK {
			t.Errorf("Weight(%d) = %v, %d; want %v", nice, got, e, want)
		}
	}
	up, down := 1024.0, 1024.0
	for n := 0; n <= 20; n++ {
		if got, e := share.Weight(-n); got != up || e != api.OK {
			t.Errorf("Weight(%d) = %v, %d; want %v", -n, got, e, up)
		}
		if got, e := share.Weight(n); n < 20 && (got != down || e != api.OK) {
			t.Errorf("Weight(%d) = %v, %d; want %v", n, got, e, down)
		}
		up, down = times(up, 1.25), over(down, 1.25)
	}
	for _, nice := range []int{-21, 20, -22, 21, -64, 64, 1 << 32, -1 << 32, 1<<32 + 1, math.MinInt, math.MaxInt} {
		if got, e := share.Weight(nice); !same(got, 0) || e != api.ErrArg {
			t.Errorf("Weight(%d) = %v, %d", nice, got, e)
		}
	}
}

// TestWeightRounds: the steps are rounded one by one, which a power taken at once isn't.
func TestWeightRounds(t *testing.T) {
	for nice, other := range map[int]float64{6: 1024 / math.Pow(1.25, 6), 8: 1024 / math.Pow(1.25, 8), 19: 1024 / math.Pow(1.25, 19)} {
		if got, _ := share.Weight(nice); got == other {
			t.Errorf("Weight(%d) = %v", nice, got)
		}
	}
}

// lists are lists of weights whose sum is one: with one, few and many elements, whose sums are rounded and aren't.
var lists = [][]float64{
	{1}, {1, 1}, {1, 3}, {3, 1}, {1, 1, 2}, {1, 2, 3, 4}, {0.1, 0.2, 0.3}, {0.3, 0.2, 0.1},
	{least}, {least, least}, {least, least, least}, {2 * least, least}, {most}, {most / 2, most / 2}, {most, 1}, {1, most},
	{1, half, half}, {half, half, 1}, {half, 1, half}, {1, half, half, 1}, {tiny, least}, {1e300, 1e-300, 1e300},
	{1024, 819.2, 1280}, {3, 7, 11, 13, 17, 19, 23}, {1.0 / 3, 2.0 / 3, 4.0 / 3}, {9, 9, 9, 9, 9, 9, 9, 9, 9, 9, 9},
	{math.Nextafter(1, 2), 1, below1}, {most / 4, most / 4, most / 4, most / 4}, {most, math.Nextafter(math.Ldexp(1, 970), 0)},
}

// heavy are lists of weights whose sum is none.
var heavy = [][]float64{
	{most, most}, {1, most, most}, {most, most, 1}, {most / 2, most / 2, most / 2}, {most, math.Ldexp(1, 970)}, {most, 1, math.Ldexp(1, 970)},
}

// TestShare: P3.5.
func TestShare(t *testing.T) {
	for _, c := range []struct {
		i    int
		l    []float64
		want float64
		e    api.Errno
	}{
		{1, []float64{1, 3}, 0.75, api.OK}, {0, []float64{1, 3}, 0.25, api.OK}, {0, []float64{0}, 0, api.ErrArg}, {0, []float64{7}, 1, api.OK},
		{-1, []float64{1, 3}, 0, api.ErrArg}, {2, []float64{1, 3}, 0, api.ErrArg}, {1, []float64{1}, 0, api.ErrArg},
		{math.MinInt, []float64{1}, 0, api.ErrArg}, {math.MaxInt, []float64{1}, 0, api.ErrArg}, {1 << 32, []float64{1}, 0, api.ErrArg},
		{0, nil, 0, api.ErrArg}, {0, []float64{}, 0, api.ErrArg}, {-1, nil, 0, api.ErrArg}, {1, nil, 0, api.ErrArg},
		// The sum is made from the left.
		{0, []float64{1, half, half}, 1, api.OK}, {2, []float64{half, half, 1}, 1 / (1 + 2*half), api.OK}, {1, []float64{1, half, half}, half, api.OK},
		{0, []float64{1, 3 * half, half}, 1 / (1 + 4*half), api.OK}, {0, []float64{3, 7}, 0.3, api.OK}, {0, []float64{1, 2}, 1.0 / 3, api.OK},
		// Parts may be rounded to nought, or be subnormal.
		{0, []float64{least, most}, 0, api.OK}, {0, []float64{least, 2}, 0, api.OK}, {0, []float64{least, least}, 0.5, api.OK}, {0, []float64{tiny, 3}, tiny / 3, api.OK},
		{0, []float64{tiny, 4}, tiny / 4, api.OK}, {0, []float64{most, 1}, 1, api.OK}, {1, []float64{most, 1}, 1 / most, api.OK},
	} {
		if got, e := share.Share(c.i, c.l...); !same(got, c.want) || e != c.e {
			t.Errorf("Share(%d, %v) = %v, %d; want %v, %d", c.i, c.l, got, e, c.want, c.e)
		}
	}
	if x, e := share.Share(0); x != 0 || e != api.ErrArg {
		t.Errorf("Share(0) = %v, %d", x, e)
	}
}

// TestShareAll: P3.5 by exact numbers that are rounded once, at every index and one beside.
func TestShareAll(t *testing.T) {
	for _, l := range slices.Concat(lists, heavy) {
		for i := -1; i <= len(l); i++ {
			want, we := shareOf(i, l)
			if got, e := share.Share(i, l...); !same(got, want) || e != we {
				t.Errorf("Share(%d, %v) = %v, %d; want %v, %d", i, l, got, e, want, we)
			}
		}
	}
	for _, l := range heavy {
		if _, e := share.Share(0, l...); e != api.ErrArg {
			t.Errorf("Share(0, %v): %d", l, e)
		}
	}
}

// spoilt calls visit with lists that have one element which is no weight, at each place.
func spoilt(visit func(at int, l []float64)) {
	for _, bad := range noWeights {
		for size := 1; size <= 4; size++ {
			for at := range size {
				l := []float64{1, 2, 3, 4}[:size:size]
				l[at] = bad
				visit(at, l)
			}
		}
	}
}

// TestNoWeights: P3.5 and P3.6 with elements that are no weights, wherever they are.
func TestNoWeights(t *testing.T) {
	spoilt(func(at int, l []float64) {
		for i := -1; i <= len(l); i++ {
			if x, e := share.Share(i, l...); !same(x, 0) || e != api.ErrArg {
				t.Errorf("Share(%d, %v) = %v, %d", i, l, x, e)
			}
		}
		for _, p := range []float64{negZero, 0, 0.1, 0.5, below1, 1, -1} {
			if i, e := share.Choose(p, l...); i != 0 || e != api.ErrArg {
				t.Errorf("Choose(%v, %v) = %d, %d", p, l, i, e)
			}
		}
	})
	// The sum of these would be one, were they not held one by one.
	for _, l := range [][]float64{{2, -1}, {-1, 2}, {1, 0}, {0, 1}, {negZero, 1}, {1, -0.5, 1}} {
		if x, e := share.Share(len(l)-1, l...); x != 0 || e != api.ErrArg {
			t.Errorf("Share(%v) = %v, %d", l, x, e)
		}
		if i, e := share.Choose(0, l...); i != 0 || e != api.ErrArg {
			t.Errorf("Choose(0, %v) = %d, %d", l, i, e)
		}
	}
}

// TestChoose: P3.6.
func TestChoose(t *testing.T) {
	third := 1.0 / 3
	for _, c := range []struct {
		p    float64
		l    []float64
		want int
		e    api.Errno
	}{
		{0.5, []float64{1, 1}, 1, api.OK}, {0.25, []float64{1, 1}, 0, api.OK}, {1, []float64{1}, 0, api.ErrArg},
		{0, []float64{1, 1}, 0, api.OK}, {negZero, []float64{1, 1}, 0, api.OK}, {0, []float64{least, most}, 0, api.OK}, {negZero, []float64{least}, 0, api.OK},
		{below1, []float64{1, 1}, 1, api.OK}, {below1, []float64{1}, 0, api.OK}, {below1, []float64{1, 2, 3, 4}, 3, api.OK},
		{least, []float64{1, 1}, 0, api.OK}, {tiny, []float64{1, 1}, 0, api.OK},
		// Partial sums that just meet the product aren't greater.
		{0.25, []float64{1, 1, 2}, 1, api.OK}, {0.5, []float64{1, 1, 2}, 2, api.OK}, {0.125, []float64{1, 1, 2, 4}, 1, api.OK}, {0.75, []float64{1, 3}, 1, api.OK},
		{0.25, []float64{1, 3}, 1, api.OK}, {math.Nextafter(0.25, 0), []float64{1, 3}, 0, api.OK}, {math.Nextafter(0.25, 1), []float64{1, 3}, 1, api.OK},
		{math.Nextafter(0.5, 0), []float64{1, 1}, 0, api.OK}, {math.Nextafter(0.5, 1), []float64{1, 1}, 1, api.OK},
		// A third is a little less than that, but its product with 3 is rounded to 1.
		{third, []float64{1, 2}, 1, api.OK}, {math.Nextafter(third, 0), []float64{1, 2}, 0, api.OK},
		// Sums are rounded: what is too light beside the others has no part, unless it comes first.
		{below1, []float64{1, half, half}, 0, api.OK}, {below1, []float64{half, half, 1}, 2, api.OK}, {0, []float64{half, half, 1}, 0, api.OK},
		{half, []float64{half, half, 1}, 1, api.OK}, {0.5, []float64{1, half, half}, 0, api.OK}, {below1, []float64{most, 1, 1}, 0, api.OK},
		// A product that is rounded up to the sum leaves none that is greater.
		{0.75, []float64{least}, 0, api.OK}, {below1, []float64{least}, 0, api.OK}, {below1, []float64{least, least}, 1, api.OK}, {0.9, []float64{least, least, least}, 2, api.OK},
		{0.5, []float64{least}, 0, api.OK}, {0.5, []float64{least, least}, 1, api.OK}, {0.5, []float64{least, least, least}, 2, api.OK}, {0.49, []float64{least, least, least}, 1, api.OK},
		{0.25, []float64{least, least}, 0, api.OK}, {math.Nextafter(0.25, 1), []float64{least, least}, 1, api.OK},
		{0.5, []float64{most / 2, most / 2}, 1, api.OK}, {0.25, []float64{most / 2, most / 2}, 0, api.OK},
		{0.5, nil, 0, api.ErrArg}, {0, []float64{}, 0, api.ErrArg}, {negZero, nil, 0, api.ErrArg}, {1, nil, 0, api.ErrArg},
	} {
		if got, e := share.Choose(c.p, c.l...); got != c.want || e != c.e {
			t.Errorf("Choose(%v, %v) = %d, %d; want %d, %d", c.p, c.l, got, e, c.want, c.e)
		}
	}
	if i, e := share.Choose(0.5); i != 0 || e != api.ErrArg {
		t.Errorf("Choose(0.5) = %d, %d", i, e)
	}
}

// TestChooseParts: P3.6 with a first number that is none of 0 to 1, and with sums that are no weight.
func TestChooseParts(t *testing.T) {
	for _, p := range noParts {
		for _, l := range slices.Concat(lists, heavy) {
			if i, e := share.Choose(p, l...); i != 0 || e != api.ErrArg {
				t.Errorf("Choose(%v, %v) = %d, %d", p, l, i, e)
			}
		}
	}
	for _, l := range heavy {
		for _, p := range parts() {
			if i, e := share.Choose(p, l...); i != 0 || e != api.ErrArg {
				t.Errorf("Choose(%v, %v) = %d, %d", p, l, i, e)
			}
		}
	}
}

// parts are numbers that Choose takes as its first, from the smallest to the greatest.
func parts() []float64 {
	out := []float64{negZero, 0, least, 2 * least, 1e-320, tiny, 1e-300, 1e-30, half / 2, half, 2 * half}
	for i := 1; i < 200; i++ {
		x := float64(i) / 200
		out = append(out, math.Nextafter(x, 0), x, math.Nextafter(x, 1))
	}
	for i := 1; i < 33; i++ {
		out = append(out, float64(i)/33)
	}
	out = append(out, 1-4*half, 1-3*half, 1-2*half, below1)
	slices.SortFunc(out, compareOf)
	return out
}

// TestChooseAll: P3.6 by exact numbers that are rounded once, and P3.7: a greater p never chooses a smaller index.
func TestChooseAll(t *testing.T) {
	for _, l := range lists {
		last := 0
		for _, p := range parts() {
			want, we := chooseOf(p, l)
			got, e := share.Choose(p, l...)
			if got != want || e != we {
				t.Errorf("Choose(%v, %v) = %d, %d; want %d, %d", p, l, got, e, want, we)
			}
			if got < last {
				t.Errorf("Choose(%v, %v) = %d after %d", p, l, got, last)
			}
			last = got
		}
	}
}

// TestChooseGrows: P3.7 at each edge, where the index changes from one number to the next.
func TestChooseGrows(t *testing.T) {
	for _, l := range lists {
		s := sums(l)
		for _, part := range s {
			p := over(part, s[len(s)-1])
			last := 0
			for range 4 {
				p = math.Nextafter(p, 0)
			}
			for range 8 {
				if p >= 1 {
					break
				}
				want, _ := chooseOf(p, l)
				got, e := share.Choose(p, l...)
				if got != want || got < last || e != api.OK {
					t.Errorf("Choose(%v, %v) = %d, %d; want %d, at least %d", p, l, got, e, want, last)
				}
				last, p = got, math.Nextafter(p, 1)
			}
		}
	}
}

// TestKept: R3 and R4, nothing is written into the list or behind it, and a call answers the same whatever came ahead.
func TestKept(t *testing.T) {
	for _, l := range slices.Concat(lists, heavy, [][]float64{{1, 0, 2}, {1, 2, math.NaN()}}) {
		for _, p := range []float64{negZero, 0, 0.5, below1, 1} {
			room := make([]float64, len(l)+4)
			for i := range room {
				room[i] = 5
			}
			copy(room, l)
			before := slices.Clone(room)
			i, e := share.Choose(p, room[:len(l)]...)
			x, f := share.Share(len(l)-1, room[:len(l)]...)
			if !slices.EqualFunc(room, before, same) {
				t.Errorf("%v is written into: %v", before, room)
			}
			share.Share(0, 7, 8, 9)
			share.Choose(0.7, 7, 8, 9)
			for i := range room {
				room[i] = 1
			}
			if j, g := share.Choose(p, l...); j != i || g != e {
				t.Errorf("Choose(%v, %v) = %d, %d, then %d, %d", p, l, i, e, j, g)
			}
			if y, g := share.Share(len(l)-1, l...); !same(y, x) || g != f {
				t.Errorf("Share(%v) = %v, %d, then %v, %d", l, x, f, y, g)
			}
		}
	}
}

// TestMany: P3.5 and P3.6 with many elements, whose sum is rounded again and again.
func TestMany(t *testing.T) {
	l := make([]float64, 20000)
	seed := uint64(1)
	for i := range l {
		seed = seed*6364136223846793005 + 1442695040888963407
		l[i] = float64(seed>>40+1) * 0.1
	}
	sum := 0.0
	for _, x := range l {
		sum += x
	}
	part := 0.0
	for i, x := range l {
		part += x
		if i%997 != 0 {
			continue
		}
		if got, e := share.Share(i, l...); got != x/sum || e != api.OK {
			t.Fatalf("Share(%d) = %v, %d", i, got, e)
		}
		if got, e := share.Choose((part-x/2)/sum, l...); got != i || e != api.OK {
			t.Fatalf("Choose at %d = %d, %d", i, got, e)
		}
	}
}
