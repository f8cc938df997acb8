package space_test

import (
	"maps"
	"math"
	"math/bits"
	"slices"
	"testing"

	"hayward/api"
	"hayward/frame"
	"hayward/space"
)

const (
	small    = uint64(4096)
	huge     = uint64(2097152)
	low      = uint64(65536)
	high     = uint64(1) << 40
	heap     = uint64(1) << 41
	top      = uint64(1) << 47
	greatest = uint64(math.MaxUint64)
)

// room says of each frame of a pool whether it is taken.
type room []bool

// alloc takes the lowest run of k frames that are free.
func (r room) alloc(k int) (uint64, bool) {
	for f := 0; f+k <= len(r); f += k {
		if !slices.Contains(r[f:f+k], true) {
			r.set(uint64(f), k, true)
			return uint64(f), true
		}
	}
	return 0, false
}

func (r room) set(f uint64, k int, taken bool) {
	for i := range k {
		r[f+uint64(i)] = taken
	}
}

func (r room) left() int {
	n := 0
	for _, taken := range r {
		if !taken {
			n++
		}
	}
	return n
}

// spot is a table's place: its level, and how many tables of the level describe lower addresses.
type spot struct {
	level  int
	number uint64
}

// spotOf is the table of the level that describes va.
func spotOf(va uint64, level int) spot {
	return spot{level, va >> (12 + 9*level)}
}

// leaf is a page beside its address.
type leaf struct {
	frame      uint64
	perm, kind int
}

func (x leaf) size() uint64 {
	if x.kind == 1 {
		return huge
	}
	return small
}

// frames is how many a page needs, and level that of the table that maps it.
func (x leaf) frames() int { return int(x.size() / small) }

func (x leaf) level() int {
	if x.kind == 1 {
		return 2
	}
	return 1
}

// model is a space that knows each page alone, by its address, and the frames of the tables that the pages need. It has no regions.
type model struct {
	room
	tables map[spot]uint64
	leaves map[uint64]leaf
}

// try makes changes, and takes them all back if they don't come to their end.
func (m *model) try(changes func() bool) bool {
	r, tables, leaves := slices.Clone(m.room), maps.Clone(m.tables), maps.Clone(m.leaves)
	if changes() {
		return true
	}
	copy(m.room, r)
	m.tables, m.leaves = tables, leaves
	return false
}

// lay maps a page, with the tables that are missing; where frames are missing it stops halfway.
func (m *model) lay(va uint64, perm, kind int) bool {
	x := leaf{perm: perm, kind: kind}
	f, ok := m.alloc(x.frames())
	if !ok {
		return false
	}
	x.frame = f
	for level := 3; level >= x.level(); level-- {
		s := spotOf(va, level)
		if _, there := m.tables[s]; there {
			continue
		}
		f, ok := m.alloc(1)
		if !ok {
			return false
		}
		m.tables[s] = f
	}
	m.leaves[va] = x
	return true
}

// lift takes a page away, and the tables that no page needs any more.
func (m *model) lift(va uint64) {
	x := m.leaves[va]
	delete(m.leaves, va)
	m.set(x.frame, x.frames(), false)
	for level := x.level(); level < 4; level++ {
		s, needed := spotOf(va, level), false
		for at, y := range m.leaves {
			needed = needed || y.level() <= level && spotOf(at, level) == s
		}
		if !needed {
			m.set(m.tables[s], 1, false)
			delete(m.tables, s)
		}
	}
}

// at is the page that contains va, by its first address.
func (m *model) at(va uint64) (uint64, bool) {
	if x, ok := m.leaves[va-va%huge]; ok && x.kind == 1 {
		return va - va%huge, true
	}
	x, ok := m.leaves[va-va%small]
	return va - va%small, ok && x.kind != 1
}

// shared is how many addresses of the range the page at va has.
func (m *model) shared(va, from, to uint64) uint64 {
	begin, end := max(va, from), min(va+m.leaves[va].size(), to)
	if begin >= end {
		return 0
	}
	return end - begin
}

// sorted are the addresses of the pages, in order.
func (m *model) sorted() []uint64 {
	return slices.Sorted(maps.Keys(m.leaves))
}

// gap is the lowest multiple of step from which on so many addresses are free: it is lowest itself, or the first one behind some page.
func (m *model) gap(lowest, size, step uint64) (uint64, bool) {
	starts := []uint64{lowest}
	for va, x := range m.leaves {
		start := va + x.size()
		for start%step != 0 {
			start += small
		}
		if _, inside := m.at(start); start > lowest && !inside {
			starts = append(starts, start)
		}
	}
	slices.Sort(starts)
	for _, start := range starts {
		free := start+size <= high
		for va := range m.leaves {
			free = free && m.shared(va, start, start+size) == 0
		}
		if free {
			return start, true
		}
	}
	return 0, false
}

// isPerm says whether pages may have these permissions, by listing.
func isPerm(perm int) bool {
	return slices.Contains([]int{1, 3, 5, 7}, perm)
}

// mmap is P10.2.
func (m *model) mmap(size uint64, perm int, big bool) (uint64, api.Errno) {
	if size == 0 || size > 1<<40 || !isPerm(perm) {
		return 0, api.ErrArg
	}
	step, kind, lowest := small, 0, low
	if big {
		step, kind, lowest = huge, 1, huge
	}
	size = (size + step - 1) / step * step
	from, ok := m.gap(lowest, size, step)
	if !ok || !m.create(from, size/step, perm, kind) {
		return 0, api.ErrNoMem
	}
	return from, api.OK
}

// create lays so many pages.
func (m *model) create(from, pages uint64, perm, kind int) bool {
	return m.try(func() bool {
		step := leaf{kind: kind}.size()
		for i := range pages {
			if !m.lay(from+i*step, perm, kind) {
				return false
			}
		}
		return true
	})
}

// end is where the range ends, if P10.3 lets it be.
func (m *model) end(va, size uint64) (uint64, bool) {
	sum, carry := bits.Add64(va, size, 0)
	pages := sum / small
	if sum%small != 0 {
		pages++
	}
	if va%small != 0 || size == 0 || carry != 0 || pages > high/small {
		return 0, false
	}
	to := pages * small
	for at, x := range m.leaves {
		if n := m.shared(at, va, to); x.kind == 1 && n != 0 && n != huge {
			return 0, false
		}
	}
	return to, true
}

// munmap is P10.3.
func (m *model) munmap(va, size uint64) api.Errno {
	to, ok := m.end(va, size)
	if !ok {
		return api.ErrArg
	}
	for _, at := range m.sorted() {
		if m.shared(at, va, to) > 0 {
			m.lift(at)
		}
	}
	return api.OK
}

// mprotect is P10.4.
func (m *model) mprotect(va, size uint64, perm int) api.Errno {
	to, ok := m.end(va, size)
	if !ok || !isPerm(perm) {
		return api.ErrArg
	}
	n := uint64(0)
	for at := range m.leaves {
		n += m.shared(at, va, to)
	}
	if n != to-va {
		return api.ErrUnmapped
	}
	for at, x := range m.leaves {
		if m.shared(at, va, to) > 0 {
			x.perm = perm
			m.leaves[at] = x
		}
	}
	return api.OK
}

// heap is how many pages there are from HeapLow on.
func (m *model) heap() int {
	n := 0
	for at := range m.leaves {
		if at >= heap {
			n++
		}
	}
	return n
}

// brk is P10.5.
func (m *model) brk(pages int) (int, api.Errno) {
	if pages < 0 || pages > 1024 {
		return 0, api.ErrArg
	}
	had := m.heap()
	if pages > had && !m.create(heap+uint64(had)*small, uint64(pages-had), 3, 2) {
		return 0, api.ErrNoMem
	}
	for i := pages; i < had; i++ {
		m.lift(heap + uint64(i)*small)
	}
	return had, api.OK
}

// walk is what P10.6 says of Walk.
func (m *model) walk(va uint64, want int) (uint64, api.Errno) {
	at, ok := m.at(va)
	switch {
	case va >= top || want < 0 || want > 7:
		return 0, api.ErrArg
	case !ok:
		return 0, api.ErrFault
	}
	x := m.leaves[at]
	for _, bit := range []int{1, 2, 4} {
		if want/bit%2 == 1 && x.perm/bit%2 == 0 {
			return 0, api.ErrPerm
		}
	}
	return x.frame*4096 + (va - at), api.OK
}

// regions are the pages that touch and are alike, as one each.
func (m *model) regions() []api.Region {
	var out []api.Region
	for _, at := range m.sorted() {
		x := m.leaves[at]
		r := api.Region{From: at, To: at + x.size(), Perm: x.perm, Kind: x.kind}
		if n := len(out) - 1; n >= 0 && out[n].To == r.From && out[n].Perm == r.Perm && out[n].Kind == r.Kind {
			out[n].To = r.To
		} else {
			out = append(out, r)
		}
	}
	return out
}

// pages are all, in order.
func (m *model) pages() []api.Mapping {
	var out []api.Mapping
	for _, at := range m.sorted() {
		x := m.leaves[at]
		out = append(out, api.Mapping{Va: at, Frame: x.frame, Perm: x.perm, Huge: x.kind == 1})
	}
	return out
}

// drop frees all frames.
func (m *model) drop() {
	for _, x := range m.leaves {
		m.set(x.frame, x.frames(), false)
	}
	for _, f := range m.tables {
		m.set(f, 1, false)
	}
	*m = model{}
}

// held is a space beside its model: each call is made on both.
type held struct {
	t *testing.T
	p *frame.Pool
	s *space.Space
	m *model
}

// pool has n frames, of which so many of the lowest are taken.
func pool(t *testing.T, n, taken int) (*frame.Pool, room) {
	t.Helper()
	p, e := frame.New(n)
	if e != api.OK {
		t.Fatal(e)
	}
	r := make(room, n)
	for f := range taken {
		r[f] = true
		p.Alloc(1)
	}
	return p, r
}

// begin is a new space on a pool that others may use too.
func begin(t *testing.T, p *frame.Pool, r room) *held {
	t.Helper()
	s, e := space.New(p)
	f, ok := r.alloc(1)
	if s == nil || e != api.OK || !ok {
		t.Fatalf("New of a pool of %d frames = %v, %d", len(r), s, e)
	}
	return &held{t, p, s, &model{room: r, tables: map[spot]uint64{{4, 0}: f}, leaves: map[uint64]leaf{}}}
}

// hold is a new space on a pool of its own.
func hold(t *testing.T, n int) *held {
	t.Helper()
	p, r := pool(t, n, 0)
	return begin(t, p, r)
}

// mmap demands the model's answer, and gives it back; so do the next four.
func (h *held) mmap(size uint64, perm int, big bool) (uint64, api.Errno) {
	h.t.Helper()
	at, want := h.m.mmap(size, perm, big)
	if got, e := h.s.Mmap(size, perm, big); got != at || e != want {
		h.t.Fatalf("Mmap(%#x, %d, %v) = %#x, %d; want %#x, %d", size, perm, big, got, e, at, want)
	}
	return at, want
}

func (h *held) munmap(va, size uint64) api.Errno {
	h.t.Helper()
	want := h.m.munmap(va, size)
	if e := h.s.Munmap(va, size); e != want {
		h.t.Fatalf("Munmap(%#x, %#x) = %d; want %d", va, size, e, want)
	}
	return want
}

func (h *held) mprotect(va, size uint64, perm int) api.Errno {
	h.t.Helper()
	want := h.m.mprotect(va, size, perm)
	if e := h.s.Mprotect(va, size, perm); e != want {
		h.t.Fatalf("Mprotect(%#x, %#x, %d) = %d; want %d", va, size, perm, e, want)
	}
	return want
}

func (h *held) brk(pages int) (int, api.Errno) {
	h.t.Helper()
	had, want := h.m.brk(pages)
	if got, e := h.s.Brk(pages); got != had || e != want {
		h.t.Fatalf("Brk(%d) = %d, %d; want %d, %d", pages, got, e, had, want)
	}
	return had, want
}

func (h *held) walk(va uint64, want int) api.Errno {
	h.t.Helper()
	at, fault := h.m.walk(va, want)
	if got, e := h.s.Walk(va, want); got != at || e != fault {
		h.t.Fatalf("Walk(%#x, %d) = %#x, %d; want %#x, %d", va, want, got, e, at, fault)
	}
	return fault
}

// must demands that a call is answered so.
func (h *held) must(got, want api.Errno) {
	h.t.Helper()
	if got != want {
		h.t.Fatalf("the answer is %d; want %d", got, want)
	}
}

// laid demands that Mmap lays a region at the address.
func (h *held) laid(at, size uint64, perm int, big bool) {
	h.t.Helper()
	if got, e := h.mmap(size, perm, big); got != at || e != api.OK {
		h.t.Fatalf("Mmap(%#x, %d, %v) = %#x, %d; want %#x", size, perm, big, got, e, at)
	}
	h.check()
}

// refused demands that Mmap tells an error, and changes nothing.
func (h *held) refused(size uint64, perm int, big bool, want api.Errno) {
	h.t.Helper()
	if _, e := h.mmap(size, perm, big); e != want {
		h.t.Fatalf("Mmap(%#x, %d, %v) tells %d; want %d", size, perm, big, e, want)
	}
	h.check()
}

// grown demands what Brk answers.
func (h *held) grown(pages, had int) {
	h.t.Helper()
	if got, e := h.brk(pages); got != had || e != api.OK {
		h.t.Fatalf("Brk(%d) = %d, %d; want %d", pages, got, e, had)
	}
	h.check()
}

// gone demands that Munmap is answered OK.
func (h *held) gone(va, size uint64) {
	h.t.Helper()
	h.must(h.munmap(va, size), api.OK)
	h.check()
}

// use takes single frames of the pool for something else, till so many are left.
func (h *held) use(left int) *held {
	h.t.Helper()
	for h.m.left() > left {
		f, _ := h.m.alloc(1)
		if g, e := h.p.Alloc(1); g != f || e != api.OK {
			h.t.Fatalf("Alloc(1) = %d, %d; want %d", g, e, f)
		}
	}
	return h
}

// release frees a frame that was taken for something else.
func (h *held) release(f uint64) {
	h.t.Helper()
	h.m.set(f, 1, false)
	if e := h.p.Free(f, 1); e != api.OK {
		h.t.Fatalf("Free(%d, 1) = %d", f, e)
	}
}

// check holds all that can be seen of the space and its pool against the model, and P10.7.
func (h *held) check() {
	h.t.Helper()
	regions, pages := h.s.Regions(), h.s.Pages()
	if want := h.m.regions(); !slices.Equal(regions, want) {
		h.t.Fatalf("Regions() = %+v; want %+v", regions, want)
	}
	if want := h.m.pages(); !slices.Equal(pages, want) {
		h.t.Fatalf("Pages() = %+v; want %+v", pages, want)
	}
	for f, taken := range h.m.room {
		if h.p.Taken(uint64(f)) != taken {
			h.t.Fatalf("of %d frames: Taken(%d) = %v; want %v", len(h.m.room), f, !taken, taken)
		}
	}
	if h.p.Left() != h.m.left() {
		h.t.Fatalf("%d frames are left; want %d", h.p.Left(), h.m.left())
	}
	h.apart(pages)
	h.found(regions, pages)
}

// apart demands that no frame belongs to two pages, or to a page and a table, and that all of them are taken.
func (h *held) apart(pages []api.Mapping) {
	h.t.Helper()
	owners := map[uint64]int{}
	for _, f := range h.m.tables {
		owners[f]++
	}
	for _, x := range pages {
		n := uint64(1)
		if x.Huge {
			n = 512
		}
		for i := range n {
			owners[x.Frame+i]++
		}
	}
	for f, n := range owners {
		if n != 1 || !h.p.Taken(f) {
			h.t.Fatalf("frame %d belongs to %d, and is taken %v", f, n, h.p.Taken(f))
		}
	}
}

// found demands that Walk finds each page of each region with its perm, from its first address to its last, and nothing beside the regions.
func (h *held) found(regions []api.Region, pages []api.Mapping) {
	h.t.Helper()
	for _, r := range regions {
		for va := r.From; va < r.To; {
			if len(pages) == 0 || pages[0].Va != va || pages[0].Perm != r.Perm || pages[0].Huge != (r.Kind == api.KHuge) {
				h.t.Fatalf("region %+v has no page at %#x: %+v", r, va, pages)
			}
			x, size := pages[0], small
			if x.Huge {
				size = huge
			}
			for _, d := range []uint64{0, size / 2, size - 1} {
				if at, e := h.s.Walk(va+d, x.Perm); at != x.Frame*4096+d || e != api.OK {
					h.t.Fatalf("Walk(%#x, %d) = %#x, %d; want %#x", va+d, x.Perm, at, e, x.Frame*4096+d)
				}
			}
			pages, va = pages[1:], va+size
		}
		h.walk(r.From-1, 1)
		h.walk(r.To, 1)
		h.walk(r.To-1, 7)
	}
	if len(pages) > 0 {
		h.t.Fatalf("pages in no region: %+v", pages)
	}
}
