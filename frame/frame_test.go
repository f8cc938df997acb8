package frame_test

import (
	"math"
	"math/rand"
	"slices"
	"testing"

	"hayward/api"
	"hayward/frame"
)

// The signatures are part of the chapter.
var (
	_ func(n int) (*frame.Pool, api.Errno)           = frame.New
	_ func(p *frame.Pool, k int) (uint64, api.Errno) = (*frame.Pool).Alloc
	_ func(p *frame.Pool, f uint64, k int) api.Errno = (*frame.Pool).Free
	_ func(p *frame.Pool, f uint64) bool             = (*frame.Pool).Taken
	_ func(p *frame.Pool) int                        = (*frame.Pool).Left
)

const (
	most     = 65536
	greatest = uint64(math.MaxUint64)
)

var (
	// lengths are those that a run may have.
	lengths = []int{1, 2, 4, 8, 16, 32, 64, 128, 256, 512}
	// wrong are lengths that no run has.
	wrong = []int{
		math.MinInt64, math.MinInt64 + 1, -1 << 32, -512, -2, -1, 0, 3, 5, 6, 7, 9, 63, 65, 96, 511, 513, 768, 1023,
		1024, 2048, most, 1 << 32, 1<<32 + 1, 1 << 62, math.MaxInt64 - 1, math.MaxInt64,
	}
	// sizes are numbers of frames around which something changes, and some that are no multiple of a run.
	sizes = []int{1, 2, 3, 7, 8, 63, 64, 65, 127, 128, 130, 200, 256, 511, 512, 513, 1000, 1024, 1300}
	// great are numbers that no frame has.
	great = []uint64{most, most + 1, 1<<32 - 512, 1<<32 - 1, 1 << 32, 1<<32 + 512, 1 << 62, 1<<63 - 512, 1<<63 - 1, 1 << 63, 1<<63 + 512, greatest - 511, greatest - 63, greatest - 1, greatest}
)

// sound is the chapter's word of a run's length, by listing.
func sound(k int) bool {
	return slices.Contains(lengths, k)
}

// model says of each frame of a pool whether it is taken.
type model []bool

// all says whether the k frames from f on, which exist, are all taken, or all free.
func (m model) all(f, k int, how bool) bool {
	return !slices.Contains(m[f:f+k], !how)
}

func (m model) set(f, k int, how bool) {
	for i := f; i < f+k; i++ {
		m[i] = how
	}
}

// alloc is P6.2, frame by frame.
func (m model) alloc(k int) (uint64, api.Errno) {
	if !sound(k) {
		return 0, api.ErrArg
	}
	for f := 0; f+k <= len(m); f += k {
		if m.all(f, k, false) {
			m.set(f, k, true)
			return uint64(f), api.OK
		}
	}
	return 0, api.ErrNoMem
}

// free is P6.3, frame by frame.
func (m model) free(f uint64, k int) api.Errno {
	if !sound(k) || f%uint64(k) != 0 || f >= uint64(len(m)) || f+uint64(k) > uint64(len(m)) {
		return api.ErrArg
	}
	if !m.all(int(f), k, true) {
		return api.ErrFrameBusy
	}
	m.set(int(f), k, false)
	return api.OK
}

func (m model) left() int {
	n := 0
	for _, t := range m {
		if !t {
			n++
		}
	}
	return n
}

// held is a pool beside its model: each call is made on both.
type held struct {
	t *testing.T
	p *frame.Pool
	m model
}

func hold(t *testing.T, n int) *held {
	t.Helper()
	p, e := frame.New(n)
	if p == nil || e != api.OK {
		t.Fatalf("New(%d) = %v, %d", n, p, e)
	}
	return &held{t, p, make(model, n)}
}

// alloc demands the model's answer, and gives it back.
func (h *held) alloc(k int) (uint64, api.Errno) {
	h.t.Helper()
	want, wantE := h.m.alloc(k)
	if got, e := h.p.Alloc(k); got != want || e != wantE {
		h.t.Fatalf("of %d frames, %d of them free: Alloc(%d) = %d, %d; want %d, %d", len(h.m), h.m.left(), k, got, e, want, wantE)
	}
	return want, wantE
}

func (h *held) free(f uint64, k int) api.Errno {
	h.t.Helper()
	want := h.m.free(f, k)
	if e := h.p.Free(f, k); e != want {
		h.t.Fatalf("of %d frames: Free(%d, %d) = %d; want %d", len(h.m), f, k, e, want)
	}
	return want
}

// check holds all that can be seen of the pool against the model.
func (h *held) check() {
	h.t.Helper()
	for f, want := range h.m {
		if got := h.p.Taken(uint64(f)); got != want {
			h.t.Fatalf("of %d frames: Taken(%d) = %v; want %v", len(h.m), f, got, want)
		}
	}
	for f := len(h.m); f < len(h.m)+600; f++ {
		if h.p.Taken(uint64(f)) {
			h.t.Fatalf("of %d frames: Taken(%d) = true; want false", len(h.m), f)
		}
	}
	h.count()
}

func (h *held) count() {
	h.t.Helper()
	if got, want := h.p.Left(), h.m.left(); got != want {
		h.t.Fatalf("of %d frames: Left() = %d; want %d", len(h.m), got, want)
	}
}

// take takes single frames, from the lowest that is free on, so many.
func (h *held) take(n int) {
	h.t.Helper()
	for range n {
		if _, e := h.alloc(1); e != api.OK {
			h.t.Fatalf("of %d frames: no frame is left", len(h.m))
		}
	}
}

// full is a pool of n frames that were taken one by one; the model is not asked each time, because great pools would take it long.
func full(t *testing.T, n int) *held {
	t.Helper()
	h := hold(t, n)
	for i := range n {
		if f, e := h.p.Alloc(1); f != uint64(i) || e != api.OK {
			t.Fatalf("of %d frames: Alloc(1) = %d, %d; want %d", n, f, e, i)
		}
	}
	h.m.set(0, n, true)
	return h
}

// only is a pool of n frames of which those alone are taken that f says.
func only(t *testing.T, n int, f func(f int) bool) *held {
	t.Helper()
	h := full(t, n)
	for i := range n {
		if !f(i) {
			h.free(uint64(i), 1)
		}
	}
	h.check()
	return h
}

// refused demands an error of Alloc, and nothing beside it.
func refused(t *testing.T, p *frame.Pool, k int, want api.Errno) {
	t.Helper()
	if f, e := p.Alloc(k); f != 0 || e != want {
		t.Errorf("Alloc(%d) = %d, %d; want 0, %d", k, f, e, want)
	}
}

// TestExamples are the chapter's, one row after the other.
func TestExamples(t *testing.T) {
	p, e := frame.New(8)
	if e != api.OK {
		t.Fatal(e)
	}
	got := func(k int, want uint64) {
		t.Helper()
		if f, e := p.Alloc(k); f != want || e != api.OK {
			t.Errorf("Alloc(%d) = %d, %d; want %d", k, f, e, want)
		}
	}
	freed := func(f uint64, k int, want api.Errno) {
		t.Helper()
		if e := p.Free(f, k); e != want {
			t.Errorf("Free(%d, %d) = %d; want %d", f, k, e, want)
		}
	}
	got(1, 0)
	got(4, 4)
	got(2, 2)
	got(1, 1)
	refused(t, p, 1, api.ErrNoMem)
	freed(4, 2, api.OK)
	got(1, 4)
	freed(4, 4, api.ErrFrameBusy)
	refused(t, p, 3, api.ErrArg)
	freed(1, 2, api.ErrArg)
	if p.Left() != 1 || p.Taken(8) {
		t.Errorf("Left() = %d, Taken(8) = %v; want 1, false", p.Left(), p.Taken(8))
	}
	if p, e := frame.New(0); p != nil || e != api.ErrArg {
		t.Errorf("New(0) = %v, %d; want ErrArg", p, e)
	}
}

// TestNew holds P6.1: how many frames there may be, and that all are free.
func TestNew(t *testing.T) {
	for _, n := range []int{math.MinInt64, math.MinInt64 + 1, -most, -1 << 32, -2, -1, 0, most + 1, most + 2, 2 * most, 1 << 32, 1<<32 + 1, 1<<32 + most, 1 << 62, math.MaxInt64 - 511, math.MaxInt64 - 1, math.MaxInt64} {
		if p, e := frame.New(n); p != nil || e != api.ErrArg {
			t.Errorf("New(%d) = %v, %d; want nil, ErrArg", n, p, e)
		}
	}
	for _, n := range append([]int{most - 512, most - 1, most}, sizes...) {
		hold(t, n).check()
	}
}

// TestNil holds that a pool that no call has returned answers ErrNil, whatever else is wrong, and otherwise zero values.
func TestNil(t *testing.T) {
	for name, p := range map[string]*frame.Pool{"nil": nil, "empty": new(frame.Pool)} {
		t.Run(name, func(t *testing.T) {
			for _, k := range slices.Concat(lengths, wrong) {
				refused(t, p, k, api.ErrNil)
				for _, f := range append([]uint64{0, 1, 2, 3, 511, 512, most - 1}, great...) {
					if e := p.Free(f, k); e != api.ErrNil {
						t.Errorf("Free(%d, %d) = %d; want ErrNil", f, k, e)
					}
					if p.Taken(f) {
						t.Errorf("Taken(%d) = true", f)
					}
				}
			}
			if p.Left() != 0 {
				t.Errorf("Left() = %d; want 0", p.Left())
			}
		})
	}
}

// TestLengths holds P6.2 and P6.3 for numbers that no run has: on pools that are free, full, and free in part.
func TestLengths(t *testing.T) {
	for _, n := range []int{1, 8, 65, 1024} {
		for _, used := range []int{0, n / 2, n} {
			h := hold(t, n)
			h.take(used)
			for _, k := range wrong {
				refused(t, h.p, k, api.ErrArg)
				for _, f := range append([]uint64{0, 1, 2, 3, 511, 512}, great...) {
					if e := h.p.Free(f, k); e != api.ErrArg {
						t.Errorf("of %d frames: Free(%d, %d) = %d; want ErrArg", n, f, k, e)
					}
				}
			}
			h.check()
		}
	}
}

// TestUntilNoMem holds P6.2: runs of one length are given one behind the other, till none fits; what is left at the end is given in shorter ones.
func TestUntilNoMem(t *testing.T) {
	for _, n := range append([]int{most - 300, most}, sizes...) {
		for _, k := range lengths {
			h := hold(t, n)
			for i := range n / k {
				f, e := h.p.Alloc(k)
				if f != uint64(i*k) || e != api.OK || h.p.Left() != n-(i+1)*k {
					t.Fatalf("of %d frames, %d. Alloc(%d) = %d, %d; %d left", n, i, k, f, e, h.p.Left())
				}
			}
			h.m.set(0, n/k*k, true)
			for range 2 {
				refused(t, h.p, k, api.ErrNoMem)
			}
			h.check()
			h.shorter(k)
			h.take(h.m.left())
			refused(t, h.p, 1, api.ErrNoMem)
			h.check()
		}
	}
}

// shorter takes a run of each length shorter than k, where there is one.
func (h *held) shorter(k int) {
	h.t.Helper()
	for ; k >= 1; k /= 2 {
		h.alloc(k)
		h.count()
	}
}

// TestLowest holds P6.2 where one frame alone is in the way, or all but one run's are taken: for every length, every run and, of those that matter, every frame.
func TestLowest(t *testing.T) {
	for _, n := range []int{63, 64, 65, 130, 513, 1300} {
		for _, k := range lengths {
			for at := range n {
				if n > 130 && at%61 != 0 && at%64 > 1 && at%64 < 63 {
					continue
				}
				one := only(t, n, func(f int) bool { return f == at })
				one.alloc(k)
				one.alloc(k)
				one.check()
				gap := only(t, n, func(f int) bool { return f/k != at/k })
				gap.alloc(k)
				gap.alloc(k)
				gap.check()
			}
		}
	}
}

// TestScattered holds that frames that are free but in no whole run are no run: one is taken of each, or they lie across a multiple, or behind the last whole run.
func TestScattered(t *testing.T) {
	for _, n := range []int{130, 512, 1000, 1023, 1024, 1535} {
		for _, k := range lengths[1:] {
			for _, taken := range []func(f int) bool{
				func(f int) bool { return f%k == 0 },
				func(f int) bool { return f%k == k-1 },
				func(f int) bool { return f%k == k/2 },
				func(f int) bool { return f%k == f/k%k },
				func(f int) bool { return (f+k/2)/k%2 == 0 },
				func(f int) bool { return f < n/k*k },
			} {
				h := only(t, n, taken)
				if _, e := h.alloc(k); e != api.ErrNoMem {
					t.Errorf("of %d frames: Alloc(%d) is answered %d; want ErrNoMem", n, k, e)
				}
				h.check()
				h.alloc(k / 2)
				h.check()
			}
		}
	}
}

// TestLongRuns holds runs of more frames than a word has bits, laid between shorter ones.
func TestLongRuns(t *testing.T) {
	h := hold(t, 2048)
	for _, x := range [][2]int{{1, 0}, {64, 64}, {512, 512}, {256, 256}, {128, 128}, {128, 1024}, {512, 1536}, {256, 1280}, {64, 1152}, {32, 32}, {64, 1216}, {2, 2}} {
		if f, _ := h.alloc(x[0]); f != uint64(x[1]) {
			t.Errorf("Alloc(%d) = %d; want %d", x[0], f, x[1])
		}
		h.check()
	}
	for _, x := range []struct {
		f uint64
		k int
		e api.Errno
	}{{512, 64, api.OK}, {512, 512, api.ErrFrameBusy}, {576, 64, api.OK}, {512, 128, api.ErrFrameBusy}, {640, 128, api.OK}, {768, 256, api.OK}, {0, 512, api.ErrFrameBusy}, {1024, 256, api.OK}, {1024, 512, api.ErrFrameBusy}, {64, 128, api.ErrArg}, {128, 256, api.ErrArg}, {256, 512, api.ErrArg}} {
		if e := h.free(x.f, x.k); e != x.e {
			t.Errorf("Free(%d, %d) = %d; want %d", x.f, x.k, e, x.e)
		}
		h.check()
	}
	for _, k := range []int{512, 256, 64, 1} {
		h.alloc(k)
		h.check()
	}
}

// TestFree holds P6.3 for every frame of small pools and every length, on pools of which all is taken, nothing is, and every third frame is.
func TestFree(t *testing.T) {
	for _, n := range []int{1, 3, 8, 63, 64, 65, 130, 600} {
		for _, taken := range []func(f int) bool{
			func(f int) bool { return true },
			func(f int) bool { return false },
			func(f int) bool { return f%3 == 0 },
			func(f int) bool { return f%128 < 64 },
		} {
			for _, k := range lengths {
				h := only(t, n, taken)
				for f := range n + 2*k {
					h.free(uint64(f), k)
					h.count()
				}
				h.check()
			}
		}
	}
}

// TestFreeInParts holds that a run may be freed otherwise than it was taken: whole where it was taken frame by frame, and frame by frame where it was taken whole.
func TestFreeInParts(t *testing.T) {
	for _, k := range lengths {
		h := full(t, 1024)
		for _, f := range slices.Compact([]int{0, k, 1024 - k}) {
			if e := h.free(uint64(f), k); e != api.OK {
				t.Errorf("Free(%d, %d) = %d", f, k, e)
			}
			h.check()
		}
		h = hold(t, 1024)
		h.alloc(k)
		h.alloc(k)
		for f := range k {
			if e := h.free(uint64(k-1-f), 1); e != api.OK {
				t.Errorf("Free(%d, 1) = %d", k-1-f, e)
			}
			h.count()
		}
		h.check()
		if f, _ := h.alloc(k); f != 0 {
			t.Errorf("Alloc(%d) = %d; want 0", k, f)
		}
	}
}

// TestFreeBusy holds that a run is not freed of which one frame is free, wherever that lies, and that the others stay taken.
func TestFreeBusy(t *testing.T) {
	for _, k := range lengths {
		for _, from := range []int{0, k, 1024 - k} {
			for _, at := range []int{0, 1, k / 2, k - 2, k - 1} {
				if at < 0 || at >= k {
					continue
				}
				h := only(t, 1024, func(f int) bool { return f != from+at })
				if e := h.free(uint64(from), k); e != api.ErrFrameBusy {
					t.Errorf("frame %d is free: Free(%d, %d) = %d; want ErrFrameBusy", from+at, from, k, e)
				}
				h.check()
			}
		}
	}
}

// TestEnds holds P6.3 for runs that end at the last frame of a pool, and one behind it.
func TestEnds(t *testing.T) {
	for _, k := range lengths {
		for _, runs := range []int{1, 2, 3, 128} {
			n := runs * k
			last := uint64(n - k)
			h := full(t, n)
			if e := h.free(last, k); e != api.OK {
				t.Errorf("of %d frames: Free(%d, %d) = %d", n, last, k, e)
			}
			if e := h.free(last, k); e != api.ErrFrameBusy {
				t.Errorf("of %d frames: Free(%d, %d) again = %d", n, last, k, e)
			}
			h.check()
			for _, f := range []uint64{last + 1, uint64(n), uint64(n + k)} {
				if e := h.free(f, k); e != api.ErrArg {
					t.Errorf("of %d frames: Free(%d, %d) = %d; want ErrArg", n, f, k, e)
				}
			}
			if n == 1 {
				continue
			}
			h = full(t, n-1)
			if e := h.free(last, k); e != api.ErrArg {
				t.Errorf("of %d frames: Free(%d, %d) = %d; want ErrArg", n-1, last, k, e)
			}
			h.check()
		}
	}
}

// TestGreatNumbers holds Free and Taken for frames far behind the end: on the greatest pool, whose last frame is 65535, and on small ones.
func TestGreatNumbers(t *testing.T) {
	for _, n := range []int{1, 65, 512, most - 1, most} {
		h := full(t, n)
		for _, f := range great {
			if h.p.Taken(f) {
				t.Errorf("of %d frames: Taken(%d) = true", n, f)
			}
			for _, k := range slices.Concat(lengths, wrong) {
				if e := h.p.Free(f, k); e != api.ErrArg {
					t.Errorf("of %d frames: Free(%d, %d) = %d; want ErrArg", n, f, k, e)
				}
			}
		}
		h.check()
		for _, k := range slices.Concat(lengths, wrong) {
			h.free(most-1, k)
		}
		h.check()
	}
	h := hold(t, most)
	if e := h.free(most-1, 1); e != api.ErrFrameBusy {
		t.Errorf("Free(65535, 1) of a free frame = %d; want ErrFrameBusy", e)
	}
	if e := h.free(most-1, 512); e != api.ErrArg {
		t.Errorf("Free(65535, 512) = %d; want ErrArg, ahead of ErrFrameBusy", e)
	}
}

// TestErrorsInOrder holds that the error is told that the promise names first.
func TestErrorsInOrder(t *testing.T) {
	h := full(t, 8)
	refused(t, h.p, 3, api.ErrArg) // no frame is free either
	refused(t, h.p, 16, api.ErrNoMem)
	h.free(2, 1)
	for _, x := range []struct {
		f uint64
		k int
	}{{2, 3}, {2, 0}, {2, 4}, {2, -1}, {0, 16}, {8, 1}, {8, 8}, {6, 4}} {
		if e := h.p.Free(x.f, x.k); e != api.ErrArg {
			t.Errorf("Free(%d, %d) = %d; want ErrArg", x.f, x.k, e)
		}
	}
	for _, x := range []struct {
		f uint64
		k int
	}{{2, 1}, {2, 2}, {0, 4}, {0, 8}} {
		if e := h.p.Free(x.f, x.k); e != api.ErrFrameBusy {
			t.Errorf("Free(%d, %d) = %d; want ErrFrameBusy", x.f, x.k, e)
		}
	}
	h.check()
}

// TestTwoPools holds that pools share nothing.
func TestTwoPools(t *testing.T) {
	a, b := hold(t, 600), hold(t, 600)
	for _, k := range []int{1, 512, 64, 2, 8} {
		a.alloc(k)
		b.check()
	}
	b.take(300)
	a.check()
	a.free(0, 1)
	b.check()
	b.free(256, 4)
	a.check()
	for range 600 {
		a.alloc(1)
	}
	b.alloc(1)
	b.check()
	a.check()
}

// TestRestored holds P6.5: a run that is given and freed leaves a pool as it was, also for the calls that follow.
func TestRestored(t *testing.T) {
	r := rand.New(rand.NewSource(65))
	for _, n := range sizes {
		for range 12 {
			h := hold(t, n)
			h.mix(r, 40)
			before := slices.Clone(h.m)
			for _, k := range lengths {
				if f, e := h.alloc(k); e == api.OK {
					h.free(f, k)
				}
				if !slices.Equal(before, h.m) {
					t.Fatalf("of %d frames: a run of %d that was given and freed has left something", n, k)
				}
				h.check()
			}
			h.mix(r, 20)
		}
	}
}

// mix makes so many calls, some of them wrong, and holds each against the model.
func (h *held) mix(r *rand.Rand, calls int) {
	h.t.Helper()
	n := len(h.m)
	for range calls {
		k := lengths[r.Intn(len(lengths))]
		if r.Intn(3) > 0 {
			k = lengths[r.Intn(4)]
		}
		switch r.Intn(12) {
		case 0:
			h.alloc(wrong[r.Intn(len(wrong))])
		case 1:
			h.free(uint64(r.Intn(n+k)), k)
		case 2:
			h.p.Free(great[r.Intn(len(great))], k)
		case 3, 4, 5, 6:
			h.free(uint64(r.Intn(n/k+1)*k), k)
		default:
			h.alloc(k)
		}
		h.count()
	}
	h.check()
}

// TestRandom holds all promises for long runs of calls, against the model.
func TestRandom(t *testing.T) {
	for seed := range 40 {
		r := rand.New(rand.NewSource(int64(seed)))
		h := hold(t, sizes[seed%len(sizes)]+r.Intn(4))
		for range 30 {
			h.mix(r, 60)
		}
	}
	h := hold(t, most)
	h.mix(rand.New(rand.NewSource(1)), 3000)
}

// run is one that was given.
type run struct {
	f uint64
	k int
}

// TestNoFrameTwice holds P6.5: no frame is given again ahead of being freed, and in the end all are free again.
func TestNoFrameTwice(t *testing.T) {
	for seed := range 20 {
		r := rand.New(rand.NewSource(int64(1000 + seed)))
		n := 1 + r.Intn(3000)
		h := hold(t, n)
		owned := map[uint64]bool{}
		var given []run
		for range 2000 {
			if r.Intn(3) > 0 {
				given = append(given, h.own(owned, lengths[r.Intn(len(lengths))])...)
			} else if len(given) > 0 {
				i := r.Intn(len(given))
				h.disown(owned, given[i])
				given = slices.Delete(given, i, i+1)
			}
			if h.p.Left() != n-len(owned) {
				t.Fatalf("%d frames left; want %d", h.p.Left(), n-len(owned))
			}
		}
		for _, x := range given {
			h.disown(owned, x)
		}
		h.check()
	}
}

// own takes a run, if there is one, and marks its frames, none of which anyone may own.
func (h *held) own(owned map[uint64]bool, k int) []run {
	h.t.Helper()
	f, e := h.p.Alloc(k)
	if e == api.ErrNoMem {
		return nil
	}
	for i := f; i < f+uint64(k); i++ {
		if e != api.OK || owned[i] || i >= uint64(len(h.m)) || !h.p.Taken(i) {
			h.t.Fatalf("Alloc(%d) = %d, %d gives frame %d", k, f, e, i)
		}
		owned[i] = true
	}
	return []run{{f, k}}
}

func (h *held) disown(owned map[uint64]bool, x run) {
	h.t.Helper()
	if e := h.p.Free(x.f, x.k); e != api.OK {
		h.t.Fatalf("Free(%d, %d) = %d", x.f, x.k, e)
	}
	for i := x.f; i < x.f+uint64(x.k); i++ {
		delete(owned, i)
	}
}
