package kern_test

import (
	"maps"
	"math/bits"
	"slices"

	"hayward/api"
)

const (
	small    = uint64(4096)
	big      = uint64(2097152)
	mapLow   = uint64(65536)
	mapHigh  = uint64(1) << 40
	heapLow  = uint64(1) << 41
	topOfAll = uint64(1) << 47
)

// memTwin knows of each frame whether it is taken, and the spaces of processes.
type memTwin struct {
	taken  []bool
	spaces map[int]*spaceTwin
}

func newMemTwin(c api.Caps) *memTwin {
	m := &memTwin{make([]bool, c.Frames), map[int]*spaceTwin{}}
	m.space(1)
	return m
}

func (m *memTwin) has(pid int) bool { return m.spaces[pid] != nil }

func (m *memTwin) left() int {
	n := 0
	for _, taken := range m.taken {
		if !taken {
			n++
		}
	}
	return n
}

// alloc takes the lowest run of k frames that are free.
func (m *memTwin) alloc(k uint64) (uint64, bool) {
	for f := uint64(0); f+k <= uint64(len(m.taken)); f += k {
		if !slices.Contains(m.taken[f:f+k], true) {
			m.set(f, k, true)
			return f, true
		}
	}
	return 0, false
}

func (m *memTwin) set(f, k uint64, taken bool) {
	for i := range k {
		m.taken[f+i] = taken
	}
}

// space is KSpace.
func (m *memTwin) space(pid int) api.Errno {
	switch {
	case pid < 1:
		return api.ErrArg
	case m.has(pid):
		return api.ErrExist
	}
	f, ok := m.alloc(1)
	if !ok {
		return api.ErrNoMem
	}
	m.spaces[pid] = &spaceTwin{m, map[[2]uint64]uint64{{4, 0}: f}, map[uint64]page{}}
	return 0
}

// page is a page of a kind of regions; at kind 1 it is huge.
type page struct {
	frame      uint64
	perm, kind int64
}

func (x page) size() uint64 {
	if x.kind == 1 {
		return big
	}
	return small
}

// level is that of the table that maps the page.
func (x page) level() uint64 {
	if x.kind == 1 {
		return 2
	}
	return 1
}

// spaceTwin knows each page alone, by its address, and the frame of each table, by its level and how many of the level describe lower addresses. It has no regions.
type spaceTwin struct {
	*memTwin
	tables map[[2]uint64]uint64
	pages  map[uint64]page
}

func tableOf(va, level uint64) [2]uint64 { return [2]uint64{level, va >> (12 + 9*level)} }

// lay maps a page, with the tables that are missing; where frames are missing it stops halfway.
func (s *spaceTwin) lay(va uint64, perm, kind int64) bool {
	x := page{perm: perm, kind: kind}
	f, ok := s.alloc(x.size() / small)
	if !ok {
		return false
	}
	x.frame = f
	s.pages[va] = x
	for level := uint64(3); level >= x.level(); level-- {
		if _, there := s.tables[tableOf(va, level)]; there {
			continue
		}
		f, ok := s.alloc(1)
		if !ok {
			return false
		}
		s.tables[tableOf(va, level)] = f
	}
	return true
}

// lift takes a page away, and the tables that no page needs any more.
func (s *spaceTwin) lift(va uint64) {
	x := s.pages[va]
	delete(s.pages, va)
	s.set(x.frame, x.size()/small, false)
	needed := map[[2]uint64]bool{}
	for at, y := range s.pages {
		for level := y.level(); level < 4; level++ {
			needed[tableOf(at, level)] = true
		}
	}
	for spot, f := range s.tables {
		if spot[0] < 4 && !needed[spot] {
			s.set(f, 1, false)
			delete(s.tables, spot)
		}
	}
}

// create lays pages from an address up to another one, or changes nothing.
func (s *spaceTwin) create(from, to uint64, perm, kind int64) bool {
	taken, tables, pages := slices.Clone(s.taken), maps.Clone(s.tables), maps.Clone(s.pages)
	for va := from; va < to; va += (page{kind: kind}).size() {
		if !s.lay(va, perm, kind) {
			copy(s.taken, taken)
			s.tables, s.pages = tables, pages
			return false
		}
	}
	return true
}

// at is the page that contains an address, by its first one.
func (s *spaceTwin) at(va uint64) (uint64, bool) {
	if x, ok := s.pages[va-va%big]; ok && x.kind == 1 {
		return va - va%big, true
	}
	x, ok := s.pages[va-va%small]
	return va - va%small, ok && x.kind != 1
}

// shared is how many addresses of the range the page at va has.
func (s *spaceTwin) shared(va, from, to uint64) uint64 {
	begin, end := max(va, from), min(va+s.pages[va].size(), to)
	return max(begin, end) - begin
}

func (s *spaceTwin) sorted() []uint64 { return slices.Sorted(maps.Keys(s.pages)) }

// gap is the lowest multiple of step from which on so many addresses are free.
func (s *spaceTwin) gap(lowest, size, step uint64) (uint64, bool) {
	start := lowest
	for _, va := range s.sorted() {
		if va < heapLow && va < start+size && va+s.pages[va].size() > start {
			start = (va + s.pages[va].size() + step - 1) / step * step
		}
	}
	return start, start+size <= mapHigh
}

func isPerm(perm int64) bool { return slices.Contains([]int64{1, 3, 5, 7}, perm) }

// mmap is what CMmap answers.
func (s *spaceTwin) mmap(size uint64, perm, huge int64) (int64, string, api.Errno) {
	if huge != 0 && huge != 1 || size == 0 || size > mapHigh || !isPerm(perm) {
		return 0, "", api.ErrArg
	}
	step, lowest := small, mapLow
	if huge == 1 {
		step, lowest = big, big
	}
	size = (size + step - 1) / step * step
	from, ok := s.gap(lowest, size, step)
	if !ok || size/small > uint64(s.left()) || !s.create(from, from+size, perm, huge) {
		return 0, "", api.ErrNoMem
	}
	return int64(from), "", 0
}

// end is where the range ends, if P10.3 lets it be.
func (s *spaceTwin) end(va, size uint64) (uint64, bool) {
	sum, carry := bits.Add64(va, size, 0)
	if va%small != 0 || size == 0 || carry != 0 || sum > mapHigh {
		return 0, false
	}
	to := (sum + small - 1) / small * small
	for at, x := range s.pages {
		if n := s.shared(at, va, to); x.kind == 1 && n != 0 && n != big {
			return 0, false
		}
	}
	return to, true
}

// munmap and mprotect are what CMunmap and CMprotect answer.
func (s *spaceTwin) munmap(va, size uint64) api.Errno {
	to, ok := s.end(va, size)
	if !ok {
		return api.ErrArg
	}
	for _, at := range s.sorted() {
		if s.shared(at, va, to) > 0 {
			s.lift(at)
		}
	}
	return 0
}

func (s *spaceTwin) mprotect(va, size uint64, perm int64) api.Errno {
	to, ok := s.end(va, size)
	if !ok || !isPerm(perm) {
		return api.ErrArg
	}
	n := uint64(0)
	for at := range s.pages {
		n += s.shared(at, va, to)
	}
	if n != to-va {
		return api.ErrUnmapped
	}
	for at, x := range s.pages {
		if s.shared(at, va, to) > 0 {
			x.perm = perm
			s.pages[at] = x
		}
	}
	return 0
}

// brk is what CBrk answers.
func (s *spaceTwin) brk(pages int64) (int64, string, api.Errno) {
	if pages < 0 || pages > 1024 {
		return 0, "", api.ErrArg
	}
	had := int64(0)
	for at := range s.pages {
		if at >= heapLow {
			had++
		}
	}
	if pages > had && !s.create(heapLow+uint64(had)*small, heapLow+uint64(pages)*small, 3, 2) {
		return 0, "", api.ErrNoMem
	}
	for i := pages; i < had; i++ {
		s.lift(heapLow + uint64(i)*small)
	}
	return had, "", 0
}

// walk is what CWalk answers.
func (s *spaceTwin) walk(va uint64, want int64) (int64, string, api.Errno) {
	at, ok := s.at(va)
	switch {
	case va >= topOfAll || want < 0 || want > 7:
		return 0, "", api.ErrArg
	case !ok:
		return 0, "", api.ErrFault
	case s.pages[at].perm|want != s.pages[at].perm:
		return 0, "", api.ErrPerm
	}
	return int64(s.pages[at].frame*4096 + va - at), "", 0
}

// drop is KDropM.
func (m *memTwin) drop(pid int) {
	s := m.spaces[pid]
	for _, at := range s.sorted() {
		s.lift(at)
	}
	s.set(s.tables[tableOf(0, 4)], 1, false)
	delete(m.spaces, pid)
}

func (m *memTwin) perform(pid int, c api.Call) (int64, string, api.Errno) {
	s, a, b := m.spaces[pid], uint64(c.N[0]), uint64(c.N[1])
	switch c.No {
	case 15:
		return s.mmap(a, c.N[1], c.N[2])
	case 16:
		return 0, "", s.munmap(a, b)
	case 17:
		return 0, "", s.mprotect(a, b, c.N[2])
	case 18:
		return s.brk(c.N[0])
	case 19:
		return s.walk(a, c.N[1])
	case 103:
		return 0, "", m.space(pid)
	}
	m.drop(pid)
	return 0, "", 0
}

// regions are the pages that touch and are alike, as one each: from, to, perm, kind.
func (s *spaceTwin) regions() [][4]int64 {
	var out [][4]int64
	for _, at := range s.sorted() {
		x := s.pages[at]
		r := [4]int64{int64(at), int64(at + x.size()), x.perm, x.kind}
		if n := len(out) - 1; n >= 0 && out[n][1] == r[0] && out[n][2] == r[2] && out[n][3] == r[3] {
			out[n][1] = r[1]
		} else {
			out = append(out, r)
		}
	}
	return out
}

func (m *memTwin) state() string {
	var out text
	out.line("l", m.left())
	for _, pid := range slices.Sorted(maps.Keys(m.spaces)) {
		s := m.spaces[pid]
		out.line("m", pid)
		for _, r := range s.regions() {
			out.line("r", r[0], r[1], r[2], r[3])
		}
		for _, at := range s.sorted() {
			out.line("g", at, s.pages[at].frame)
		}
	}
	return out.String()
}
