package space_test

import (
	"math"
	"math/rand"
	"slices"
	"testing"

	"hayward/api"
	"hayward/frame"
	"hayward/space"
)

// The signatures are part of the chapter.
var (
	_ func(p *frame.Pool) (*space.Space, api.Errno)                              = space.New
	_ func(s *space.Space, size uint64, perm int, huge bool) (uint64, api.Errno) = (*space.Space).Mmap
	_ func(s *space.Space, va, size uint64) api.Errno                            = (*space.Space).Munmap
	_ func(s *space.Space, va, size uint64, perm int) api.Errno                  = (*space.Space).Mprotect
	_ func(s *space.Space, pages int) (int, api.Errno)                           = (*space.Space).Brk
	_ func(s *space.Space, va uint64, want int) (uint64, api.Errno)              = (*space.Space).Walk
	_ func(s *space.Space) []api.Region                                          = (*space.Space).Regions
	_ func(s *space.Space) []api.Mapping                                         = (*space.Space).Pages
	_ func(s *space.Space) api.Errno                                             = (*space.Space).Drop
)

var (
	// sizes are numbers of bytes around which something changes.
	sizes = []uint64{
		0, 1, 4095, 4096, 4097, 8192, 8193, huge - 4096, huge - 1, huge, huge + 1, 2 * huge, 2*huge + 1, 1 << 30, high - huge - 1, high - huge, high - huge + 1,
		high - low - 1, high - low, high - low + 1, high - 1, high, high + 1, high + 4096, heap, top, 1 << 63, 1<<63 + 4096, greatest - huge + 1, greatest - small + 1, greatest - 1, greatest,
	}
	// perms are the sums of the permissions, what exceeds them, and numbers with bits far above.
	perms = []int{-1, 0, 1, 2, 3, 4, 5, 6, 7, 8, 9, 11, 15, 16 + 7, 1<<31 + 1, 1 << 32, 1<<32 + 3, 1<<62 + 7, -2, -7, -8, math.MaxInt64, math.MinInt64, math.MinInt64 + 1}
	// wants are what may be wanted, and what may not.
	wants = []int{-1, 0, 1, 2, 3, 4, 5, 6, 7, 8, 9, 1 << 32, 1<<32 + 1, math.MaxInt64, math.MinInt64, math.MinInt64 + 1}
	// addresses are numbers around which something changes.
	addresses = []uint64{
		0, 1, 4095, 4096, low - 4096, low - 1, low, low + 1, low + 4096, huge - 4096, huge - 1, huge, huge + 1, huge + 4096, 2*huge - 1, 2 * huge, 3 * huge, 1 << 30,
		high - huge, high - 4096, high - 1, high, high + 4096, heap - 4096, heap - 1, heap, heap + 1, heap + 4096, heap + 1024*4096, top - 4096, top - 1, top, top + 4096,
		1 << 63, greatest - huge + 1, greatest - small + 1, greatest - 1, greatest,
	}
)

// TestExamples are the chapter's, one row after the other.
func TestExamples(t *testing.T) {
	p, _ := pool(t, 1100, 0)
	s, e := space.New(p)
	if s == nil || e != api.OK {
		t.Fatal(s, e)
	}
	is := func(got, want api.Errno) {
		t.Helper()
		if got != want {
			t.Errorf("the answer is %d; want %d", got, want)
		}
	}
	laid := func(size uint64, perm int, big bool, want uint64) {
		t.Helper()
		if at, e := s.Mmap(size, perm, big); at != want || e != api.OK {
			t.Errorf("Mmap(%d, %d, %v) = %d, %d; want %d", size, perm, big, at, e, want)
		}
	}
	walk := func(va uint64, want int, fault api.Errno) {
		t.Helper()
		_, e := s.Walk(va, want)
		is(e, fault)
	}
	laid(5000, 3, false, 65536)
	if got := s.Regions(); !slices.Equal(got, []api.Region{{From: 65536, To: 73728, Perm: 3}}) {
		t.Errorf("Regions() = %+v", got)
	}
	walk(65536, 2, api.OK)
	is(s.Munmap(65536, 4096), api.OK)
	walk(65536, 1, api.ErrFault)
	walk(69632, 1, api.OK)
	laid(1, 1, true, 2097152)
	is(s.Mprotect(2097152, 4096, 1), api.ErrArg)
	for _, c := range [][2]int{{3, 0}, {1, 3}, {0, 1}} {
		if had, e := s.Brk(c[0]); had != c[1] || e != api.OK {
			t.Errorf("Brk(%d) = %d, %d; want %d", c[0], had, e, c[1])
		}
	}
	is(s.Drop(), api.OK)
	if p.Left() != 1100 {
		t.Errorf("behind Drop %d frames are free", p.Left())
	}
}

// TestNew holds P10.1: on pools with none, just enough and many frames; a space without regions has one frame, that of the root.
func TestNew(t *testing.T) {
	for _, n := range []int{1, 2, 3, 8, 513, 65536} {
		for _, taken := range []int{0, 1, n / 2, n - 1} {
			if taken >= n {
				continue
			}
			p, r := pool(t, n, taken)
			h := begin(t, p, r)
			h.check()
			if p.Left() != n-taken-1 || !p.Taken(uint64(taken)) {
				t.Errorf("of %d frames, %d of them taken, New leaves %d", n, taken, p.Left())
			}
		}
		p, _ := pool(t, n, n)
		if s, e := space.New(p); s != nil || e != api.ErrNoMem || p.Left() != 0 {
			t.Errorf("New of a pool without a free frame = %v, %d", s, e)
		}
	}
	for name, p := range map[string]*frame.Pool{"nil": nil, "empty": new(frame.Pool)} {
		if s, e := space.New(p); s != nil || e != api.ErrNil {
			t.Errorf("New of a pool that is %s = %v, %d; want nil, ErrNil", name, s, e)
		}
	}
}

// TestMmapArguments holds P10.2 for all sizes and permissions, on pools where huge pages find frames and where they don't; what is laid is taken away again.
func TestMmapArguments(t *testing.T) {
	for _, n := range []int{1, 12, 700, 1600} {
		h := hold(t, n)
		for _, size := range sizes {
			for _, perm := range perms {
				for _, big := range []bool{false, true} {
					at, e := h.mmap(size, perm, big)
					if e == api.OK {
						h.check()
						h.must(h.munmap(at, size+huge-1-(size+huge-1)%huge), api.OK)
					} else if len(h.s.Regions()) != 0 || h.p.Left() != n-1 {
						t.Fatalf("Mmap(%#x, %d, %v) tells %d, but has left %+v", size, perm, big, e, h.s.Regions())
					}
				}
			}
			h.check()
		}
	}
}

// TestMmapErrors holds which arguments are wrong, by listing: ErrArg is told ahead of ErrNoMem.
func TestMmapErrors(t *testing.T) {
	for _, left := range []int{0, 4, 700} {
		h := hold(t, 1200).use(left)
		for perm := -1; perm <= 9; perm++ {
			for _, big := range []bool{false, true} {
				h.refused(0, perm, big, api.ErrArg)
				h.refused(high+1, perm, big, api.ErrArg)
				h.refused(greatest, perm, big, api.ErrArg)
				want := api.ErrArg
				if slices.Contains([]int{1, 3, 5, 7}, perm) {
					want = api.ErrNoMem
				}
				for _, size := range []uint64{high, high - 1, high - low + 1, high - low, 1 << 30} {
					h.refused(size, perm, big, want)
				}
				if left == 0 || want == api.ErrArg {
					h.refused(1, perm, big, want)
					h.refused(huge, perm, big, want)
				}
			}
		}
	}
}

// TestRounding holds how long regions become.
func TestRounding(t *testing.T) {
	for _, c := range []struct {
		size uint64
		big  bool
		want uint64
	}{
		{1, false, 4096}, {4095, false, 4096}, {4096, false, 4096}, {4097, false, 8192}, {5000, false, 8192}, {huge - 1, false, huge}, {huge, false, huge}, {huge + 1, false, huge + 4096},
		{1, true, huge}, {4096, true, huge}, {huge - 1, true, huge}, {huge, true, huge}, {huge + 1, true, 2 * huge}, {2 * huge, true, 2 * huge},
	} {
		h := hold(t, 2100)
		at, kind := low, api.KSmall
		if c.big {
			at, kind = huge, api.KHuge
		}
		h.laid(at, c.size, 5, c.big)
		if got := h.s.Regions(); !slices.Equal(got, []api.Region{{From: at, To: at + c.want, Perm: 5, Kind: kind}}) {
			t.Errorf("Mmap(%d, 5, %v) lays %+v", c.size, c.big, got)
		}
	}
}

// TestFrames holds which frames are taken, by numbers that are written out: a page's ahead of those of its tables, page by page.
func TestFrames(t *testing.T) {
	h := hold(t, 1100)
	h.laid(low, 3*small, 7, false)
	if got := h.s.Pages(); !slices.Equal(got, []api.Mapping{{Va: low, Frame: 1, Perm: 7}, {Va: low + small, Frame: 5, Perm: 7}, {Va: low + 2*small, Frame: 6, Perm: 7}}) {
		t.Errorf("Pages() = %+v", got)
	}
	h.laid(huge, 1, 3, true)
	h.grown(1, 0)
	if got := h.s.Pages()[3:]; !slices.Equal(got, []api.Mapping{{Va: huge, Frame: 512, Perm: 3, Huge: true}, {Va: heap, Frame: 7, Perm: 3}}) {
		t.Errorf("Pages() = %+v", got)
	}
	if h.p.Left() != 1100-1-3-3-512-1-3 {
		t.Errorf("%d frames are left", h.p.Left())
	}
	h.gone(low+small, small)
	h.laid(low+small, 1, 1, false)
	if at, e := h.s.Walk(low+small+7, 1); at != 5*4096+7 || e != api.OK {
		t.Errorf("Walk = %d, %d", at, e)
	}
}

// TestPlace holds which address Mmap tells: behind other regions, in gaps that are just as large, larger and too small.
func TestPlace(t *testing.T) {
	h := hold(t, 200)
	h.laid(low, 4*small, 3, false)
	h.laid(low+4*small, 2*small, 1, false)
	h.laid(low+6*small, 1, 3, false)
	h.laid(low+7*small, 5*small, 5, false)
	h.gone(low+4*small, 2*small)
	h.laid(low+12*small, 3*small, 7, false)
	h.laid(low+4*small, 2*small, 7, false)
	h.gone(low+4*small, 2*small)
	h.laid(low+4*small, 1, 3, false)
	h.laid(low+15*small, 2*small, 3, false)
	h.laid(low+5*small, small, 1, false)
	h.gone(low, 4*small)
	h.gone(low+8*small, 3*small)
	h.laid(low+17*small, 5*small, 1, false)
	h.laid(low, 4*small, 1, false)
	h.laid(low+8*small, 3*small, 5, false)
	h.laid(low+22*small, 1, 5, false)
}

// TestPlaceAgain holds that each gap is filled from its beginning, whichever of the regions goes.
func TestPlaceAgain(t *testing.T) {
	for gap := range uint64(6) {
		for n := uint64(1); n <= 4; n++ {
			h := hold(t, 80)
			for i := range uint64(6) {
				h.laid(low+2*i*small, 2*small, 1+2*int(i%2), false)
			}
			h.gone(low+2*gap*small, 2*small)
			want := low + 12*small
			if n <= 2 || gap == 5 {
				want = low + 2*gap*small
			}
			h.laid(want, n*small, 3, false)
		}
	}
}

// TestPlaceHuge holds where small and huge regions stand next to each other: huge ones at multiples of their pages, with what is left between them for small ones.
func TestPlaceHuge(t *testing.T) {
	h := hold(t, 4200)
	h.laid(low, small, 3, false)
	h.laid(huge, 1, 3, true)
	h.laid(2*huge, huge+1, 3, true)
	h.laid(low+small, huge-low-small, 3, false)
	h.laid(4*huge, 1, 3, false)
	h.laid(5*huge, 1, 1, true)
	h.laid(4*huge+small, huge-small, 5, false)
	h.gone(2*huge, 2*huge)
	h.laid(2*huge, 1, 5, false)
	h.laid(3*huge, huge, 5, true)
	h.laid(2*huge+small, huge-small, 3, false)
	h.gone(3*huge, huge)
	h.laid(3*huge, 1, 7, true)
	if got, want := h.s.Regions(), []api.Region{
		{From: low, To: huge, Perm: 3}, {From: huge, To: 2 * huge, Perm: 3, Kind: api.KHuge}, {From: 2 * huge, To: 2*huge + small, Perm: 5}, {From: 2*huge + small, To: 3 * huge, Perm: 3},
		{From: 3 * huge, To: 4 * huge, Perm: 7, Kind: api.KHuge}, {From: 4 * huge, To: 4*huge + small, Perm: 3}, {From: 4*huge + small, To: 5 * huge, Perm: 5}, {From: 5 * huge, To: 6 * huge, Perm: 1, Kind: api.KHuge},
	}; !slices.Equal(got, want) {
		t.Errorf("Regions() = %+v; want %+v", got, want)
	}
}

// TestHugeIsFree holds that a huge region needs the whole of its last page.
func TestHugeIsFree(t *testing.T) {
	for _, n := range []uint64{huge - low, huge - low + small} {
		h := hold(t, 2200)
		h.laid(low, n, 3, false)
		want := huge
		if n > huge-low {
			want = 2 * huge
		}
		h.laid(want, 1, 3, true)
	}
}

// TestNoRoom holds that no region ends above MapHigh, and which sizes find no room whatever the frames.
func TestNoRoom(t *testing.T) {
	h := hold(t, 1200)
	h.laid(low, 1, 3, false)
	for _, size := range []uint64{high - low, high - low - 1, high - low - small + 1, high} {
		h.refused(size, 3, false, api.ErrNoMem)
	}
	for _, size := range []uint64{high, high - 1, high - huge + 1, high - huge} {
		h.refused(size, 3, true, api.ErrNoMem)
	}
	h.laid(low+small, small, 1, false)
	h.laid(huge, huge, 1, true)
}

// missing lays things on a pool with each number of free frames below those that are needed, and demands ErrNoMem, and that nothing has changed; with as many as are needed it is answered OK.
func missing(t *testing.T, n, needed int, before func(*held), call func(*held) api.Errno) {
	t.Helper()
	for left := range needed + 3 {
		h := hold(t, n)
		before(h)
		h.use(left)
		h.check()
		want := api.ErrNoMem
		if left >= needed {
			want = api.OK
		}
		h.must(call(h), want)
		h.check()
		if want == api.OK {
			if h.p.Left() != left-needed {
				t.Fatalf("of %d frames %d are left; %d are needed", left, h.p.Left(), needed)
			}
			continue
		}
		h.must(call(h), want)
		h.check()
	}
}

// lays is a call of Mmap, and grows one of Brk.
func lays(size uint64, big bool) func(*held) api.Errno {
	return func(h *held) api.Errno {
		_, e := h.mmap(size, 3, big)
		return e
	}
}

func grows(pages int) func(*held) api.Errno {
	return func(h *held) api.Errno {
		_, e := h.brk(pages)
		return e
	}
}

// TestMissingFrames holds P10.2 and P10.5 where frames are missing: at the first page, at the last page and between, for pages and for tables.
func TestMissingFrames(t *testing.T) {
	nothing := func(*held) {}
	one := func(h *held) { h.laid(low, 1, 1, false) }
	missing(t, 40, 4, nothing, lays(1, false))
	missing(t, 40, 13, nothing, lays(10*small, false))
	missing(t, 40, 1, one, lays(1, false))
	missing(t, 40, 9, one, lays(9*small, false))
	missing(t, 40, 4, one, grows(1))
	missing(t, 40, 23, one, grows(20))
	missing(t, 60, 17, func(h *held) { one(h); h.grown(3, 0) }, grows(20))
	missing(t, 60, 20, func(h *held) { h.laid(low, 1, 1, false); h.gone(low, 1); h.grown(3, 0) }, lays(17*small, false))
}

// TestMissingTable holds that a second table of the lowest level is missing at the first page that needs it: there the page finds a frame, but its table doesn't.
func TestMissingTable(t *testing.T) {
	pages := (huge - low) / small
	missing(t, 1100, 10, func(h *held) { h.laid(low, (pages-5)*small, 1, false) }, lays(9*small, false))
	missing(t, 1100, 13, func(h *held) { h.grown(505, 0) }, grows(517))
}

// TestMissingRuns holds what becomes of huge pages where frames for one, for its tables, or for the next page are missing.
func TestMissingRuns(t *testing.T) {
	for _, n := range []int{512, 1023, 1024, 1025, 1026, 1536, 2047, 2048, 2500, 2560} {
		for size := huge; size <= 5*huge; size += huge {
			h := hold(t, n)
			want := api.OK
			if 1+size/huge > uint64(n)/512 {
				want = api.ErrNoMem
			}
			_, e := h.mmap(size, 5, true)
			h.must(e, want)
			h.check()
			_, e = h.mmap(1, 5, true)
			h.check()
			h.gone(0, high)
			if h.p.Left() != n-1 {
				t.Errorf("of %d frames %d are free", n, h.p.Left())
			}
			h.mmap(size, 5, true)
			h.check()
		}
	}
}

// TestMissingTablesOfRuns holds where a run of frames is free, but none or only one for the two tables.
func TestMissingTablesOfRuns(t *testing.T) {
	for free := range uint64(4) {
		h := hold(t, 1024).use(0)
		for f := range uint64(512) {
			h.release(512 + f)
		}
		for f := range free {
			h.release(100 + f)
		}
		h.check()
		if free < 2 {
			h.refused(1, 3, true, api.ErrNoMem)
			h.refused(2*huge, 3, true, api.ErrNoMem)
		} else {
			h.refused(2*huge, 3, true, api.ErrNoMem)
			h.laid(huge, 1, 3, true)
		}
	}
	h := hold(t, 1024).use(0)
	for f := range uint64(511) {
		h.release(512 + f)
	}
	h.refused(1, 3, true, api.ErrNoMem)
	h.laid(low, 507*small, 3, false)
	h.refused(1, 3, false, api.ErrNoMem)
}

// town has, from low on, pages 0 to 3 with perm 3, 4 and 5 with 1, none at 6, 7 to 9 with 3, none at 10 and 11, 12 with 7; and huge pages at 1 and 2 with 3 and at 3 with 5.
func town(t *testing.T) *held {
	t.Helper()
	h := hold(t, 2700)
	h.laid(low, 4*small, 3, false)
	h.laid(low+4*small, 3*small, 1, false)
	h.laid(low+7*small, 3*small, 3, false)
	h.laid(low+10*small, 3*small, 7, false)
	h.laid(huge, 2*huge, 3, true)
	h.laid(3*huge, 1, 5, true)
	h.gone(low+6*small, small)
	h.gone(low+10*small, 2*small)
	return h
}

// ranges calls visit with ranges around all that stands in a town, sound ones and others.
func ranges(visit func(va, size uint64)) {
	var ends []uint64
	for i := range uint64(15) {
		ends = append(ends, low+i*small-small)
	}
	for i := range uint64(5) {
		ends = append(ends, (i+1)*huge-small, (i+1)*huge, (i+1)*huge+small)
	}
	ends = append(ends, 0, 2*huge+huge/2, 1<<30, high-small, high)
	for _, from := range ends {
		for _, to := range ends {
			if from < to {
				visit(from, to-from)
			}
		}
	}
}

// oddRanges are wrong ones, and those whose size is no multiple of a page.
var oddRanges = [][2]uint64{
	{low, 0}, {low, 1}, {low, 4095}, {low, 4097}, {low, 4 * 4096}, {low + 3*4096, 2}, {low + 3*4096, 4098}, {low + 1, 4096}, {low + 2048, 2048}, {low + 4095, 1}, {low - 1, 4096}, {0, 1}, {0, low}, {0, low + 1}, {1, low}, {0, 0},
	{huge, huge}, {huge, huge - 1}, {huge, huge - 4095}, {huge, huge - 4096}, {huge, huge + 1}, {huge, 2*huge - 4095}, {huge, 2*huge - 4096}, {huge, 4096}, {huge, 1}, {2*huge - 4096, 4096}, {2*huge - 4096, huge + 4096}, {2*huge - 4096, 1},
	{huge + 512*2048, 4096}, {3 * huge, huge}, {3 * huge, huge - 4095}, {3*huge - 4096, 2 * 4096}, {3*huge - 4096, huge + 4096}, {3 * huge, 2*huge + 1}, {0, 2 * huge}, {0, 4 * huge}, {0, 3*huge - 4096}, {0, 3*huge - 4095},
	{0, high}, {0, high - 4095}, {0, high + 1}, {low, high - low}, {low, high - low + 1}, {low, high}, {high - 4096, 4096}, {high - 4096, 1}, {high - 4096, 4097}, {high, 0}, {high, 1}, {high, 4096}, {high + 4096, 4096},
	{heap, 4096}, {heap, 1}, {heap - 4096, 4096}, {heap + 4096, 4096}, {top - 4096, 4096}, {top, 4096}, {0, greatest}, {0, greatest - 4095}, {4096, greatest - 4095}, {4096, greatest - 4096}, {low, greatest - low + 1}, {low, greatest - low + 2}, {low, greatest - low + 4097},
	{huge, greatest - huge + 1}, {huge, greatest - huge + 4097}, {high, greatest - high + 1}, {1 << 63, 1 << 63}, {1 << 63, 1<<63 + 4096}, {greatest - 4095, 4096}, {greatest - 4095, 4095}, {greatest - 4095, 8192}, {greatest - 4095, greatest}, {greatest, greatest}, {greatest, 1},
}

// TestMunmap holds P10.3 in a town for every range: whole regions, their beginnings, ends and middles, several with the gaps between them, and where there is none; whole huge pages, and parts of them.
func TestMunmap(t *testing.T) {
	h := town(t)
	h.grown(3, 0)
	again := func(va, size uint64) {
		if h.munmap(va, size) == api.OK {
			h.check()
			h = rebuilt(t, h)
		}
	}
	ranges(again)
	for _, c := range oddRanges {
		again(c[0], c[1])
	}
	h.check()
}

// rebuilt is a new town with a heap, but for the case that nothing is gone.
func rebuilt(t *testing.T, h *held) *held {
	t.Helper()
	if len(h.m.leaves) == 10+3+3 {
		return h
	}
	h = town(t)
	h.grown(3, 0)
	return h
}

// TestMunmapOut holds P10.3 by answers that are written out.
func TestMunmapOut(t *testing.T) {
	r := func(from, to uint64, perm int) api.Region {
		return api.Region{From: low + from*small, To: low + to*small, Perm: perm}
	}
	for _, c := range []struct {
		va, size uint64
		want     []api.Region
	}{
		{low, 10 * small, nil}, {low, 1, []api.Region{r(1, 6, 3), r(6, 10, 1)}}, {low, 6*small - 4095, []api.Region{r(6, 10, 1)}}, {low, 6*small + 1, []api.Region{r(7, 10, 1)}},
		{low + 9*small, 1, []api.Region{r(0, 6, 3), r(6, 9, 1)}}, {low + 2*small, 4097, []api.Region{r(0, 2, 3), r(4, 6, 3), r(6, 10, 1)}}, {low + 5*small, 2 * small, []api.Region{r(0, 5, 3), r(7, 10, 1)}},
		{0, low + small, []api.Region{r(1, 6, 3), r(6, 10, 1)}}, {0, low, []api.Region{r(0, 6, 3), r(6, 10, 1)}}, {low + 9*small, high - low - 9*small, []api.Region{r(0, 6, 3), r(6, 9, 1)}},
		{0, high, nil}, {low + 10*small, huge, []api.Region{r(0, 6, 3), r(6, 10, 1)}},
	} {
		h := hold(t, 30)
		h.laid(low, 6*small, 3, false)
		h.laid(low+6*small, 4*small, 1, false)
		h.gone(c.va, c.size)
		if got := h.s.Regions(); !slices.Equal(got, c.want) {
			t.Errorf("Munmap(%#x, %#x) leaves %+v; want %+v", c.va, c.size, got, c.want)
		}
	}
}

// TestMunmapHuge holds what a range may have of huge pages.
func TestMunmapHuge(t *testing.T) {
	for _, c := range []struct {
		va, size uint64
		want     api.Errno
	}{
		{2 * huge, 1, api.ErrArg}, {2 * huge, small, api.ErrArg}, {2 * huge, huge - small, api.ErrArg}, {2 * huge, huge - small + 1, api.OK}, {2 * huge, huge, api.OK}, {2 * huge, huge + 1, api.ErrArg},
		{3*huge - small, small, api.ErrArg}, {2*huge + huge/2, small, api.ErrArg}, {2*huge + small, huge - small, api.ErrArg}, {2*huge - small, huge + small, api.ErrArg}, {huge, 2 * huge, api.OK},
		{huge - small, huge + small, api.OK}, {huge - small, huge, api.ErrArg}, {3 * huge, 2 * huge, api.OK}, {3 * huge, huge + small, api.OK}, {3*huge + small, huge, api.ErrArg}, {4 * huge, small, api.OK},
		{0, 4*huge + small, api.OK}, {0, high, api.OK}, {0, 2*huge + small, api.ErrArg}, {low, 3*huge - low + 1, api.ErrArg}, {low, huge - low, api.OK},
	} {
		h := hold(t, 2200)
		h.laid(huge, 3*huge, 7, true)
		h.must(h.munmap(c.va, c.size), c.want)
		h.check()
	}
}

// TestMunmapAll holds that all frames but the root's are free when everything is removed, at once or piece by piece.
func TestMunmapAll(t *testing.T) {
	for _, pieces := range [][][2]uint64{
		{{0, high}}, {{low, 6 * small}, {low + 6*small, huge}, {2 * huge, huge}, {3 * huge, huge}}, {{3 * huge, huge}, {huge, 2 * huge}, {low + 12*small, 1}, {low, 11 * small}},
		{{low + 4*small, 6 * small}, {huge, huge}, {0, high}}, {{0, high}, {0, high}},
	} {
		h := town(t)
		for _, c := range pieces {
			if h.munmap(c[0], c[1]) == api.ErrArg {
				h.gone(0, huge)
			}
			h.check()
		}
		h.gone(0, high)
		if h.p.Left() != 2699 || len(h.s.Regions()) != 0 || len(h.s.Pages()) != 0 {
			t.Errorf("when all is removed, %d frames are free, regions are %+v", h.p.Left(), h.s.Regions())
		}
	}
}

// TestMprotect holds P10.4 in a town for every range, with perms that make neighbours alike and others.
func TestMprotect(t *testing.T) {
	h := town(t)
	h.grown(3, 0)
	i, n := 0, 0
	ranges(func(va, size uint64) {
		perm := []int{1, 3, 5, 7, 3, 1, 7, 2, 3}[i%9]
		i++
		if h.mprotect(va, size, perm) == api.OK {
			n++
		}
		h.check()
	})
	for _, c := range oddRanges {
		for _, perm := range []int{1, 7} {
			if h.mprotect(c[0], c[1], perm) == api.OK {
				n++
				h.check()
			}
		}
	}
	h.check()
	if n < 40 {
		t.Errorf("only %d ranges were changed", n)
	}
}

// TestMprotectPerms holds which permissions a range may be given: ErrArg is told ahead of ErrUnmapped, for whatever is wrong.
func TestMprotectPerms(t *testing.T) {
	h := town(t)
	for _, perm := range perms {
		good, gap := api.ErrArg, api.ErrArg
		if slices.Contains([]int{1, 3, 5, 7}, perm) {
			good, gap = api.OK, api.ErrUnmapped
		}
		h.must(h.mprotect(low+small, 4*small, perm), good)
		h.check()
		h.must(h.mprotect(2*huge, huge, perm), good)
		h.check()
		h.must(h.mprotect(low-small, 2*small, perm), gap)
		h.must(h.mprotect(low+5*small, 4*small, perm), gap)
		h.must(h.mprotect(low+9*small, 2*small, perm), gap)
		h.must(h.mprotect(low+6*small, 1, perm), gap)
		h.must(h.mprotect(3*huge, huge+1, perm), gap)
		h.must(h.mprotect(0, high, perm), gap)
		h.must(h.mprotect(high-small, small, perm), gap)
		for _, c := range [][2]uint64{{low + 1, 1}, {low, 0}, {low + 6*small, 0}, {high, 1}, {heap, small}, {0, high + 1}, {low, greatest}, {2 * huge, small}, {0, huge + small}, {3*huge - small, 3 * huge}} {
			h.must(h.mprotect(c[0], c[1], perm), api.ErrArg)
		}
		h.check()
	}
}

// TestMprotectOut holds P10.4 by answers that are written out: parts become regions of their own, and neighbours that become alike become one.
func TestMprotectOut(t *testing.T) {
	r := func(from, to uint64, perm int) api.Region {
		return api.Region{From: low + from*small, To: low + to*small, Perm: perm}
	}
	for _, c := range []struct {
		from, pages uint64
		perm        int
		want        []api.Region
	}{
		{0, 6, 5, []api.Region{r(0, 6, 5), r(6, 10, 1)}}, {0, 2, 5, []api.Region{r(0, 2, 5), r(2, 6, 3), r(6, 10, 1)}}, {4, 2, 5, []api.Region{r(0, 4, 3), r(4, 6, 5), r(6, 10, 1)}},
		{2, 2, 5, []api.Region{r(0, 2, 3), r(2, 4, 5), r(4, 6, 3), r(6, 10, 1)}}, {0, 6, 3, []api.Region{r(0, 6, 3), r(6, 10, 1)}}, {1, 2, 3, []api.Region{r(0, 6, 3), r(6, 10, 1)}},
		{0, 6, 1, []api.Region{r(0, 10, 1)}}, {6, 4, 3, []api.Region{r(0, 10, 3)}}, {6, 1, 3, []api.Region{r(0, 7, 3), r(7, 10, 1)}}, {5, 1, 1, []api.Region{r(0, 5, 3), r(5, 10, 1)}},
		{4, 4, 7, []api.Region{r(0, 4, 3), r(4, 8, 7), r(8, 10, 1)}}, {0, 10, 7, []api.Region{r(0, 10, 7)}},
	} {
		h := hold(t, 30)
		h.laid(low, 6*small, 3, false)
		h.laid(low+6*small, 4*small, 1, false)
		frames := h.s.Pages()
		h.must(h.mprotect(low+c.from*small, c.pages*small, c.perm), api.OK)
		h.check()
		if got := h.s.Regions(); !slices.Equal(got, c.want) {
			t.Errorf("Mprotect of %d pages from %d with %d leaves %+v; want %+v", c.pages, c.from, c.perm, got, c.want)
		}
		for i, x := range h.s.Pages() {
			if x.Frame != frames[i].Frame {
				t.Errorf("Mprotect has moved the page at %#x", x.Va)
			}
		}
	}
}

// TestMprotectKinds holds that small and huge regions stay apart when they become alike, and are changed together.
func TestMprotectKinds(t *testing.T) {
	h := hold(t, 2300)
	h.laid(low, huge-low, 1, false)
	h.laid(huge, 2*huge, 3, true)
	h.laid(3*huge, small, 5, false)
	h.must(h.mprotect(huge-3*small, 2*huge+4*small, 7), api.OK)
	h.check()
	if got, want := h.s.Regions(), []api.Region{
		{From: low, To: huge - 3*small, Perm: 1}, {From: huge - 3*small, To: huge, Perm: 7}, {From: huge, To: 3 * huge, Perm: 7, Kind: api.KHuge}, {From: 3 * huge, To: 3*huge + small, Perm: 7},
	}; !slices.Equal(got, want) {
		t.Errorf("Regions() = %+v; want %+v", got, want)
	}
	h.must(h.mprotect(2*huge, huge, 1), api.OK)
	h.check()
	h.must(h.mprotect(2*huge-small, huge, 1), api.ErrArg)
	h.must(h.mprotect(2*huge, huge, 7), api.OK)
	h.check()
}

// TestBrk holds P10.5: up, down and to the same number, and the numbers that are told.
func TestBrk(t *testing.T) {
	h := hold(t, 1100)
	had := 0
	for _, pages := range []int{0, 3, 1, 0, 0, 1, 1, 2, 1024, 1024, 1023, 1024, 512, 513, 511, 1, 0, 700, 0} {
		h.grown(pages, had)
		had = pages
		want := []api.Region{{From: heap, To: heap + uint64(pages)*small, Perm: 3, Kind: api.KHeap}}
		if pages == 0 {
			want = nil
		}
		if got := h.s.Regions(); !slices.Equal(got, want) {
			t.Errorf("after Brk(%d), Regions() = %+v", pages, got)
		}
	}
	if h.p.Left() != 1099 {
		t.Errorf("%d frames are left", h.p.Left())
	}
}

// TestBrkArguments holds which numbers of pages are wrong: ErrArg is told ahead of ErrNoMem.
func TestBrkArguments(t *testing.T) {
	for _, left := range []int{0, 5, 1050} {
		h := hold(t, 1100)
		h.grown(2, 0)
		h.use(left)
		for _, pages := range []int{-1, -2, -1024, 1025, 1026, 2048, 1 << 20, 1 << 32, 1<<32 + 1, 1 << 52, 1<<52 + 1, math.MaxInt64, math.MinInt64, math.MinInt64 + 1} {
			if had, e := h.brk(pages); had != 0 || e != api.ErrArg {
				t.Errorf("Brk(%d) = %d, %d; want 0, ErrArg", pages, had, e)
			}
		}
		h.check()
		want := api.OK
		if left < 1050 {
			want = api.ErrNoMem
		}
		_, e := h.brk(1024)
		h.must(e, want)
		h.check()
	}
}

// TestBrkKeepsFrames holds that pages that stay have the frames that they had, and that those at the end go.
func TestBrkKeepsFrames(t *testing.T) {
	h := hold(t, 100)
	h.grown(5, 0)
	five := h.s.Pages()
	h.grown(9, 5)
	if got := h.s.Pages(); !slices.Equal(got[:5], five) {
		t.Errorf("Pages() = %+v; want %+v first", got, five)
	}
	h.grown(2, 9)
	if got := h.s.Pages(); !slices.Equal(got, five[:2]) {
		t.Errorf("Pages() = %+v; want %+v", got, five[:2])
	}
}

// TestHeapAlone holds that Mmap, Munmap and Mprotect leave the heap as it is, and Brk the regions.
func TestHeapAlone(t *testing.T) {
	h := town(t)
	h.grown(4, 0)
	of := func(l []api.Region) []api.Region { return l[len(l)-1:] }
	kept := of(h.s.Regions())
	for _, c := range [][2]uint64{{heap, small}, {heap, 4 * small}, {heap - small, 2 * small}, {0, heap + small}, {high, heap}, {high - small, 2 * small}} {
		h.must(h.munmap(c[0], c[1]), api.ErrArg)
		h.must(h.mprotect(c[0], c[1], 1), api.ErrArg)
		h.check()
	}
	h.laid(low+6*small, 1, 3, false)
	h.gone(low, small)
	h.must(h.mprotect(low+small, small, 1), api.OK)
	h.gone(0, high)
	if got := h.s.Regions(); !slices.Equal(got, kept) {
		t.Errorf("the heap has become %+v", got)
	}
	h.laid(low, 3, 3, false)
	h.grown(6, 4)
	h.grown(0, 6)
	if got := h.s.Regions(); !slices.Equal(got, []api.Region{{From: low, To: low + small, Perm: 3}}) {
		t.Errorf("the regions have become %+v", got)
	}
}

// TestWalk holds what P10.6 says of Walk: every want, at the first and the last address of each region and one beside, and at numbers that are no address.
func TestWalk(t *testing.T) {
	h := town(t)
	h.grown(2, 0)
	list := slices.Clone(addresses)
	for _, r := range h.s.Regions() {
		list = append(list, r.From-1, r.From, r.From+1, r.To-1, r.To, r.To+1, r.From+small, r.To-small)
	}
	for _, va := range list {
		for _, want := range wants {
			h.walk(va, want)
		}
	}
	for _, perm := range []int{1, 3, 5, 7} {
		h.must(h.mprotect(huge, huge, perm), api.OK)
		h.must(h.mprotect(low, small, perm), api.OK)
		for _, va := range []uint64{low, low + small - 1, huge, huge + huge/2, 2*huge - 1} {
			for want := -1; want <= 8; want++ {
				fault := api.OK
				if want < 0 || want > 7 {
					fault = api.ErrArg
				} else if want|perm != perm {
					fault = api.ErrPerm
				}
				h.must(h.walk(va, want), fault)
			}
		}
	}
	h.must(h.walk(low-1, 7), api.ErrFault)
	h.must(h.walk(low-1, 8), api.ErrArg)
	h.must(h.walk(heap+2*small-1, 3), api.OK)
	h.must(h.walk(heap+2*small, 1), api.ErrFault)
	h.must(h.walk(heap, 4), api.ErrPerm)
	h.must(h.walk(top, 0), api.ErrArg)
}

// TestLists holds P10.6: the order of regions and pages, small, huge and a heap, in whatever order they came.
func TestLists(t *testing.T) {
	h := hold(t, 1200)
	if len(h.s.Regions()) != 0 || len(h.s.Pages()) != 0 {
		t.Errorf("a new space has %+v, %+v", h.s.Regions(), h.s.Pages())
	}
	h.grown(1, 0)
	h.laid(huge, 1, 5, true)
	h.laid(low, small+1, 1, false)
	if got, want := h.s.Regions(), []api.Region{{From: low, To: low + 2*small, Perm: 1}, {From: huge, To: 2 * huge, Perm: 5, Kind: api.KHuge}, {From: heap, To: heap + small, Perm: 3, Kind: api.KHeap}}; !slices.Equal(got, want) {
		t.Errorf("Regions() = %+v; want %+v", got, want)
	}
	if got, want := h.s.Pages(), []api.Mapping{{Va: low, Frame: 7, Perm: 1}, {Va: low + small, Frame: 9, Perm: 1}, {Va: huge, Frame: 512, Perm: 5, Huge: true}, {Va: heap, Frame: 1, Perm: 3}}; !slices.Equal(got, want) {
		t.Errorf("Pages() = %+v; want %+v", got, want)
	}
}

// scribbled writes over all memory of a list, and says whether it isn't that of the other.
func scribbled[T comparable](list, other []T, x T) bool {
	for i := range list[:cap(list)] {
		list[:cap(list)][i] = x
	}
	return !slices.Contains(other[:cap(other)], x)
}

// TestNewMemory holds R3: what Regions and Pages give may be written to, with its spare room, and is given anew each time.
func TestNewMemory(t *testing.T) {
	h := town(t)
	h.grown(2, 0)
	r, pages := api.Region{From: 1, To: 2, Perm: 9, Kind: 9}, api.Mapping{Va: 1, Frame: 2, Perm: 9, Huge: true}
	if !scribbled(h.s.Regions(), h.s.Regions(), r) || !scribbled(h.s.Pages(), h.s.Pages(), pages) {
		t.Error("two answers share memory")
	}
	h.check()
	regions, leaves := h.s.Regions(), h.s.Pages()
	keptRegions, keptLeaves := slices.Clone(regions), slices.Clone(leaves)
	h.gone(low+small, small)
	h.must(h.mprotect(huge, huge, 7), api.OK)
	h.grown(5, 2)
	h.laid(low+small, 1, 7, false)
	if !slices.Equal(regions, keptRegions) || !slices.Equal(leaves, keptLeaves) {
		t.Error("a later call has changed an answer")
	}
}

// silent demands that a space answers every call as a nil one does, whatever else is wrong.
func silent(t *testing.T, s *space.Space) {
	t.Helper()
	for _, size := range sizes {
		for _, perm := range []int{-1, 0, 1, 3, 8} {
			for _, big := range []bool{false, true} {
				if at, e := s.Mmap(size, perm, big); at != 0 || e != api.ErrNil {
					t.Errorf("Mmap(%#x, %d, %v) = %#x, %d; want 0, ErrNil", size, perm, big, at, e)
				}
			}
			for _, va := range addresses {
				if e := s.Mprotect(va, size, perm); e != api.ErrNil {
					t.Errorf("Mprotect(%#x, %#x, %d) = %d; want ErrNil", va, size, perm, e)
				}
			}
		}
		for _, va := range addresses {
			if e := s.Munmap(va, size); e != api.ErrNil {
				t.Errorf("Munmap(%#x, %#x) = %d; want ErrNil", va, size, e)
			}
		}
	}
	for _, pages := range []int{-1, 0, 1, 1024, 1025, math.MaxInt64, math.MinInt64} {
		if had, e := s.Brk(pages); had != 0 || e != api.ErrNil {
			t.Errorf("Brk(%d) = %d, %d; want 0, ErrNil", pages, had, e)
		}
	}
	for _, va := range addresses {
		for _, want := range wants {
			if at, e := s.Walk(va, want); at != 0 || e != api.ErrNil {
				t.Errorf("Walk(%#x, %d) = %#x, %d; want 0, ErrNil", va, want, at, e)
			}
		}
	}
	if len(s.Regions()) != 0 || len(s.Pages()) != 0 || s.Drop() != api.ErrNil {
		t.Errorf("regions %v, pages %v, Drop %d; want none, none, ErrNil", s.Regions(), s.Pages(), s.Drop())
	}
}

// TestNil holds R4 for spaces that no call has returned.
func TestNil(t *testing.T) {
	silent(t, nil)
	silent(t, new(space.Space))
}

// TestDrop holds P10.6 and P10.7: an empty and a full space give all frames back, once, and keep silent from then on.
func TestDrop(t *testing.T) {
	for name, fill := range map[string]func(*held){
		"empty": func(*held) {},
		"emptied": func(h *held) {
			h.laid(low, 3*small, 3, false)
			h.gone(low, 3*small)
		},
		"heap":  func(h *held) { h.grown(600, 0) },
		"small": func(h *held) { h.laid(low, 600*small, 3, false) },
		"huge":  func(h *held) { h.laid(huge, 2*huge, 3, true) },
		"full": func(h *held) {
			h.laid(low, 3*small, 3, false)
			h.laid(huge, huge, 5, true)
			h.laid(2*huge, 1, 1, true)
			h.grown(9, 0)
			h.laid(low+3*small, 1, 7, false)
			for e := api.OK; e == api.OK; {
				_, e = h.mmap(1, 1, false)
			}
		},
	} {
		p, r := pool(t, 2000, 3)
		h := begin(t, p, r)
		fill(h)
		h.must(h.s.Drop(), api.OK)
		h.m.drop()
		for f, taken := range r {
			if p.Taken(uint64(f)) != taken {
				t.Errorf("%s: behind Drop, Taken(%d) = %v", name, f, !taken)
			}
		}
		if p.Left() != 1997 {
			t.Errorf("%s: behind Drop, %d frames are free", name, p.Left())
		}
		silent(t, h.s)
		young := begin(t, p, r)
		young.laid(low, 5*small, 3, false)
		silent(t, h.s)
		young.check()
	}
}

// TestErrorsChangeNothing holds P10.7: calls that tell an error, however often they are made, leave all as it was, and what is free too.
func TestErrorsChangeNothing(t *testing.T) {
	h := town(t)
	h.grown(2, 0)
	h.use(3)
	for range 2 {
		for _, size := range sizes {
			for _, perm := range []int{-1, 0, 2, 3, 8} {
				h.mmap(max(size, 4*small)*uint64(perm&1), perm, false)
				h.mmap(size, perm, true)
			}
			h.mprotect(low+size, size, 8)
			h.mprotect(0, max(size, 1), 3)
			h.munmap(1, size)
			h.munmap(huge+small, size)
			h.munmap(low, size&^4095|high)
		}
		for _, pages := range []int{-1, 6, 7, 1024, 1025} {
			if _, e := h.brk(pages); e == api.OK {
				t.Errorf("Brk(%d) is answered OK", pages)
			}
		}
		h.check()
		if len(h.m.leaves) != 10+3+2 || h.p.Left() != 3 {
			t.Fatalf("calls that tell errors have left %d pages, %d frames", len(h.m.leaves), h.p.Left())
		}
	}
}

// TestTwoSpaces holds that spaces on one pool share nothing but the pool.
func TestTwoSpaces(t *testing.T) {
	p, r := pool(t, 1700, 0)
	a, b := begin(t, p, r), begin(t, p, r)
	both := func() {
		t.Helper()
		a.check()
		b.check()
	}
	a.laid(low, 3*small, 3, false)
	b.laid(low, 5*small, 1, false)
	a.laid(huge, 1, 3, true)
	b.laid(huge, 1, 5, true)
	both()
	a.refused(1, 3, true, api.ErrNoMem)
	b.refused(1, 3, true, api.ErrNoMem)
	both()
	a.grown(7, 0)
	b.grown(2, 0)
	both()
	a.gone(low, small)
	b.laid(low+5*small, 1, 3, false)
	both()
	a.must(a.mprotect(low+small, small, 7), api.OK)
	both()
	b.refused(uint64(p.Left()+1)*small, 3, false, api.ErrNoMem)
	both()
	b.laid(low+6*small, 100*small, 3, false)
	both()
	a.must(a.s.Drop(), api.OK)
	a.m.drop()
	b.check()
	b.laid(2*huge, 1, 3, true)
	c := begin(t, p, r)
	c.laid(low, 8*small, 3, false)
	silent(t, a.s)
	b.check()
	c.check()
}

// TestFreedFrames holds R1 where someone frees a frame of a space: removing its page is answered as ever, and leaves none of its frames taken.
func TestFreedFrames(t *testing.T) {
	for f := range uint64(9) {
		p, _ := pool(t, 20, 0)
		s, _ := space.New(p)
		s.Mmap(3*small, 3, false)
		s.Brk(1)
		p.Free(f, 1)
		if _, e := s.Walk(low, 1); e != api.OK {
			t.Errorf("Walk tells %d", e)
		}
		if e := s.Mprotect(low, 3*small, 1); e != api.OK {
			t.Errorf("Mprotect tells %d", e)
		}
		if e := s.Munmap(low, small); e != api.OK {
			t.Errorf("Munmap tells %d", e)
		}
		if had, e := s.Brk(0); had != 1 || e != api.OK {
			t.Errorf("Brk(0) = %d, %d", had, e)
		}
		if _, e := s.Walk(low, 1); e != api.ErrFault {
			t.Errorf("Walk tells %d", e)
		}
		if e := s.Drop(); e != api.OK || p.Left() != 20 {
			t.Errorf("Drop tells %d, and leaves %d frames free", e, p.Left())
		}
	}
}

// pick is one of the list.
func pick[T any](r *rand.Rand, list []T) T {
	return list[r.Intn(len(list))]
}

// somewhere is an address that mostly has to do with the space: an end of a region, or a page of one.
func (h *held) somewhere(r *rand.Rand) uint64 {
	regions := h.m.regions()
	if len(regions) == 0 || r.Intn(30) == 0 {
		return pick(r, addresses)
	}
	x := pick(r, regions)
	va := x.From + uint64(r.Int63n(int64((x.To-x.From)/small)))*small
	return pick(r, []uint64{x.From, x.From, x.To, x.From - small, va, va, va - va%huge, va + uint64(r.Intn(4096))})
}

// length is how many bytes are laid, taken away or changed: mostly some pages, seldom a wrong number.
func (h *held) length(r *rand.Rand) uint64 {
	switch r.Intn(12) {
	case 0:
		return pick(r, sizes)
	case 1:
		return uint64(1+r.Intn(3))*huge - uint64(r.Intn(2)*r.Intn(4096))
	case 2:
		return uint64(1 + r.Intn(64*4096))
	}
	return uint64(1+r.Intn(6))*small - uint64(r.Intn(2)*r.Intn(4096))
}

func someperm(r *rand.Rand) int {
	if r.Intn(25) == 0 {
		return pick(r, perms)
	}
	return pick(r, []int{1, 3, 3, 5, 7})
}

// mix makes one call, sometimes a wrong one, or takes or frees frames of the pool for something else; own are those.
func (h *held) mix(r *rand.Rand, own *[]uint64) {
	h.t.Helper()
	switch r.Intn(18) {
	case 0, 1, 2, 3:
		h.mmap(h.length(r), someperm(r), false)
	case 4, 5:
		h.mmap(h.length(r), someperm(r), true)
	case 6, 7, 8:
		h.munmap(h.somewhere(r), h.length(r))
	case 9, 10, 11:
		h.mprotect(h.somewhere(r), h.length(r), someperm(r))
	case 12, 13:
		h.brk(pick(r, []int{0, 1, 2, r.Intn(12), r.Intn(60), r.Intn(1030) - 3}))
	case 14:
		h.walk(h.somewhere(r), r.Intn(10)-1)
	case 15:
		if f, ok := h.m.alloc(1); ok {
			h.p.Alloc(1)
			*own = append(*own, f)
		}
	case 16:
		if n := len(*own); n > 0 {
			i := r.Intn(n)
			h.release((*own)[i])
			*own = slices.Delete(*own, i, i+1)
		}
	default:
		if l := h.m.regions(); len(l) > 0 {
			x := pick(r, l)
			h.munmap(x.From, x.To-x.From)
		}
	}
}

// TestRandom holds all promises for long runs of calls on pools of many sizes against the model: everything that can be seen is compared after every call.
func TestRandom(t *testing.T) {
	for i, n := range []int{1, 2, 4, 5, 6, 8, 12, 20, 40, 90, 200, 511, 512, 600, 1024, 1030, 1100, 1600, 2600} {
		r := rand.New(rand.NewSource(int64(i)))
		h := hold(t, n)
		var own []uint64
		for range 250 {
			h.mix(r, &own)
			h.check()
		}
	}
}

// TestRandomLong is the same for longer runs on two spaces of one pool, with fewer comparisons; in the end, when everything is removed, all frames are free again.
func TestRandomLong(t *testing.T) {
	for i, n := range []int{12, 30, 100, 530, 1100, 1700, 2700} {
		r := rand.New(rand.NewSource(int64(100 + i)))
		p, taken := pool(t, n, 0)
		a, b := begin(t, p, taken), begin(t, p, taken)
		var own []uint64
		for j := range 1500 {
			pick(r, []*held{a, b}).mix(r, &own)
			if j%50 == 0 {
				a.check()
				b.check()
			}
		}
		for _, f := range own {
			a.release(f)
		}
		for _, h := range []*held{a, b} {
			h.gone(0, high)
			h.brk(0)
			h.check()
		}
		if p.Left() != n-2 {
			t.Errorf("when everything is removed, %d of %d frames are free; want all but two roots", p.Left(), n)
		}
		a.must(a.s.Drop(), api.OK)
		a.m.drop()
		b.check()
		b.must(b.s.Drop(), api.OK)
		if p.Left() != n {
			t.Errorf("in the end %d of %d frames are free", p.Left(), n)
		}
	}
}
