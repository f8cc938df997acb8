package region_test

import (
	"fmt"
	"math"
	"math/rand"
	"slices"
	"testing"

	"hayward/api"
	"hayward/region"
)

// The signatures are part of the chapter.
var (
	_ func(l []api.Region, r api.Region) ([]api.Region, api.Errno)                  = region.Add
	_ func(l []api.Region, from, to uint64) ([]api.Region, []api.Region, api.Errno) = region.Cut
	_ func(l []api.Region, from, to uint64, perm int) ([]api.Region, api.Errno)     = region.Protect
	_ func(l []api.Region, lo, hi, size, step uint64) (gap uint64, fault api.Errno) = region.Gap
	_ func(l []api.Region, va uint64) (contains api.Region, is bool)                = region.At
)

const (
	small    = uint64(4096)
	huge     = uint64(2097152)
	top      = uint64(1) << 47
	greatest = uint64(math.MaxUint64)
)

var (
	// numbers are those at which something changes, for addresses and sizes alike.
	numbers = []uint64{
		0, 1, 4095, 4096, 4097, 8192, 12288, 20480, huge - 4096, huge - 1, huge, huge + 1, huge + 4096, 2 * huge, 1 << 40, 1 << 46, top - 2*huge, top - huge, top - 8192,
		top - 4097, top - 4096, top - 4095, top - 1, top, top + 1, top + 4096, top + huge, 1 << 48, 1 << 63, 1<<63 + 4096, greatest - huge + 1, greatest - small + 1, greatest - 1, greatest,
	}
	// badPerms are none, by bits far above those of permissions as well.
	badPerms = []int{0, -1, -2, -7, 8, 9, 15, 16, 64 + 7, 256 + 1, 1<<31 + 7, 1 << 32, 1<<32 + 1, 1<<62 + 7, math.MaxInt64, math.MinInt64, math.MinInt64 + 1, math.MinInt64 + 7}
	// badKinds are none either.
	badKinds = []int{-1, -2, 3, 4, 256, 257, 1 << 32, 1<<32 + 1, math.MaxInt64, math.MinInt64, math.MinInt64 + 1}
)

// pages is a region by the numbers of its pages.
func pages(from, to uint64, perm, kind int) api.Region {
	return api.Region{From: from * small, To: to * small, Perm: perm, Kind: kind}
}

// bytes is a region by its addresses.
func bytes(from, to uint64, perm, kind int) api.Region {
	return api.Region{From: from, To: to, Perm: perm, Kind: kind}
}

func list(l ...api.Region) []api.Region {
	return l
}

// isRange, isRegion and valid are the chapter's words.
func isRange(from, to uint64) bool {
	return from%4096 == 0 && to%4096 == 0 && from < to && to <= top
}

func isPerm(perm int) bool {
	return slices.Contains([]int{1, 2, 3, 4, 5, 6, 7}, perm)
}

func isRegion(r api.Region) bool {
	return isRange(r.From, r.To) && isPerm(r.Perm) && slices.Contains([]int{0, 1, 2}, r.Kind)
}

func valid(l []api.Region) bool {
	for i, r := range l {
		if !isRegion(r) {
			return false
		}
		if i == 0 {
			continue
		}
		before := l[i-1]
		if before.To > r.From {
			return false
		}
		if before.To == r.From && before.Perm == r.Perm && before.Kind == r.Kind {
			return false
		}
	}
	return true
}

// mark is what a page has: that of a page in no region is zero.
type mark struct{ perm, kind int }

func markOf(r api.Region) mark {
	return mark{r.Perm, r.Kind}
}

// sheet knows each page alone, from the page at first on.
type sheet struct {
	first uint64
	marks []mark
}

// sheetOf has the pages of a valid list and of a range.
func sheetOf(l []api.Region, from, to uint64) sheet {
	for _, r := range l {
		from, to = min(from, r.From), max(to, r.To)
	}
	if to-from > 1<<16*small {
		panic("too many pages to know each of them")
	}
	s := sheet{from, make([]mark, (to-from)/small)}
	for _, r := range l {
		s.lay(r.From, r.To, markOf(r))
	}
	return s
}

// of is the marks of a range.
func (s sheet) of(from, to uint64) []mark {
	return s.marks[(from-s.first)/small : (to-s.first)/small]
}

func (s sheet) lay(from, to uint64, m mark) {
	for i := range s.of(from, to) {
		s.of(from, to)[i] = m
	}
}

// list is the only valid one.
func (s sheet) list() []api.Region {
	var out []api.Region
	for i, m := range s.marks {
		from := s.first + uint64(i)*small
		switch {
		case m == mark{}:
		case i > 0 && s.marks[i-1] == m:
			out[len(out)-1].To += small
		default:
			out = append(out, bytes(from, from+small, m.perm, m.kind))
		}
	}
	return out
}

// wasAdded is P9.1, page by page.
func wasAdded(l []api.Region, r api.Region) ([]api.Region, api.Errno) {
	if !valid(l) || !isRegion(r) {
		return nil, api.ErrArg
	}
	s := sheetOf(l, r.From, r.To)
	if slices.ContainsFunc(s.of(r.From, r.To), func(m mark) bool { return m != mark{} }) {
		return nil, api.ErrMapped
	}
	s.lay(r.From, r.To, markOf(r))
	return s.list(), api.OK
}

// wasCut is P9.2, page by page.
func wasCut(l []api.Region, from, to uint64) ([]api.Region, []api.Region, api.Errno) {
	if !valid(l) || !isRange(from, to) {
		return nil, nil, api.ErrArg
	}
	s := sheetOf(l, from, to)
	out := sheet{from, slices.Clone(s.of(from, to))}
	s.lay(from, to, mark{})
	return s.list(), out.list(), api.OK
}

// wasProtected is P9.3, page by page.
func wasProtected(l []api.Region, from, to uint64, perm int) ([]api.Region, api.Errno) {
	if !valid(l) || !isRange(from, to) || !isPerm(perm) {
		return nil, api.ErrArg
	}
	s := sheetOf(l, from, to)
	if slices.Contains(s.of(from, to), mark{}) {
		return nil, api.ErrUnmapped
	}
	for i := range s.of(from, to) {
		s.of(from, to)[i].perm = perm
	}
	return s.list(), api.OK
}

// soundGap is the condition of P9.4.
func soundGap(l []api.Region, lo, hi, size, step uint64) bool {
	return valid(l) && (step == 4096 || step == 2097152) && lo%step == 0 && size%step == 0 && size > 0 && lo <= hi && hi <= top
}

// wasGap is P9.4, page by page; pages behind the list are in no region.
func wasGap(l []api.Region, lo, hi, size, step uint64) (uint64, api.Errno) {
	if !soundGap(l, lo, hi, size, step) {
		return 0, api.ErrArg
	}
	s := sheetOf(l, lo, (hi+small-1)/small*small)
	for at := lo; at <= hi && size <= hi-at; at += step {
		if !slices.ContainsFunc(s.of(at, at+size), func(m mark) bool { return m != mark{} }) {
			return at, api.OK
		}
	}
	return 0, api.ErrNoMem
}

// wasAt is P9.5.
func wasAt(l []api.Region, va uint64) (api.Region, bool) {
	if valid(l) {
		for _, r := range l {
			if va >= r.From && va < r.To {
				return r, true
			}
		}
	}
	return api.Region{}, false
}

// told is a list, for messages: each region's pages, Perm and Kind.
func told(l []api.Region) string {
	out := fmt.Sprintf("%d regions", len(l))
	for _, r := range l {
		out += fmt.Sprintf(" [%#x %#x %d %d]", r.From, r.To, r.Perm, r.Kind)
	}
	return out
}

// The wants hold what was answered against what is wanted; beside an error, nothing is.
func wantAdd(t *testing.T, l []api.Region, r api.Region, want []api.Region, e api.Errno) {
	t.Helper()
	if got, ge := region.Add(l, r); !slices.Equal(got, want) || ge != e {
		t.Errorf("Add(%s, %s): %s, %d; want %s, %d", told(l), told(list(r)), told(got), ge, told(want), e)
	}
}

func wantCut(t *testing.T, l []api.Region, from, to uint64, rest, out []api.Region, e api.Errno) {
	t.Helper()
	if gr, gOut, ge := region.Cut(l, from, to); !slices.Equal(gr, rest) || !slices.Equal(gOut, out) || ge != e {
		t.Errorf("Cut(%s, %#x, %#x): %s, %s, %d; want %s, %s, %d", told(l), from, to, told(gr), told(gOut), ge, told(rest), told(out), e)
	}
}

func wantProtect(t *testing.T, l []api.Region, from, to uint64, perm int, want []api.Region, e api.Errno) {
	t.Helper()
	if got, ge := region.Protect(l, from, to, perm); !slices.Equal(got, want) || ge != e {
		t.Errorf("Protect(%s, %#x, %#x, %d): %s, %d; want %s, %d", told(l), from, to, perm, told(got), ge, told(want), e)
	}
}

func wantGap(t *testing.T, l []api.Region, lo, hi, size, step, want uint64, e api.Errno) {
	t.Helper()
	if got, ge := region.Gap(l, lo, hi, size, step); got != want || ge != e {
		t.Errorf("Gap(%s, %#x, %#x, %#x, %#x): %#x, %d; want %#x, %d", told(l), lo, hi, size, step, got, ge, want, e)
	}
}

func wantAt(t *testing.T, l []api.Region, va uint64, want api.Region, is bool) {
	t.Helper()
	if got, gis := region.At(l, va); got != want || gis != is {
		t.Errorf("At(%s, %#x): %+v, %v; want %+v, %v", told(l), va, got, gis, want, is)
	}
}

// The holds hold what is answered against the models.
func holdAdd(t *testing.T, l []api.Region, r api.Region) {
	t.Helper()
	want, e := wasAdded(l, r)
	wantAdd(t, l, r, want, e)
}

func holdCut(t *testing.T, l []api.Region, from, to uint64) {
	t.Helper()
	rest, out, e := wasCut(l, from, to)
	wantCut(t, l, from, to, rest, out, e)
}

func holdProtect(t *testing.T, l []api.Region, from, to uint64, perm int) {
	t.Helper()
	want, e := wasProtected(l, from, to, perm)
	wantProtect(t, l, from, to, perm, want, e)
}

func holdGap(t *testing.T, l []api.Region, lo, hi, size, step uint64) {
	t.Helper()
	want, e := wasGap(l, lo, hi, size, step)
	wantGap(t, l, lo, hi, size, step, want, e)
}

func holdAt(t *testing.T, l []api.Region, va uint64) {
	t.Helper()
	want, is := wasAt(l, va)
	wantAt(t, l, va, want, is)
}

// added and cut answer what must be no error.
func added(t *testing.T, l []api.Region, r api.Region) []api.Region {
	t.Helper()
	out, e := region.Add(l, r)
	if e != api.OK {
		t.Fatalf("Add(%s, %s): %d", told(l), told(list(r)), e)
	}
	return out
}

func cut(t *testing.T, l []api.Region, from, to uint64) ([]api.Region, []api.Region) {
	t.Helper()
	rest, out, e := region.Cut(l, from, to)
	if e != api.OK {
		t.Fatalf("Cut(%s, %#x, %#x): %d", told(l), from, to, e)
	}
	return rest, out
}

// isBack holds P9.6: what can be added and is cut out again leaves the list as it was, and is what was cut.
func isBack(t *testing.T, l []api.Region, r api.Region) {
	t.Helper()
	wantCut(t, added(t, l, r), r.From, r.To, l, list(r), api.OK)
}

// inTwo holds P9.6: cut from from to mid and from mid to to, in either order, a list is cut as at once.
func inTwo(t *testing.T, l []api.Region, from, mid, to uint64) {
	t.Helper()
	rest, out := cut(t, l, from, to)
	low, a := cut(t, l, from, mid)
	low, b := cut(t, low, mid, to)
	high, c := cut(t, l, mid, to)
	high, d := cut(t, high, from, mid)
	if !slices.Equal(low, rest) || !slices.Equal(high, rest) {
		t.Errorf("%s cut from %#x to %#x is %s; in two parts at %#x %s, %s", told(l), from, to, told(rest), mid, told(low), told(high))
	}
	if !slices.Equal(a, d) || !slices.Equal(b, c) {
		t.Errorf("%s cut from %#x to %#x in two parts at %#x: %s, %s; and from behind: %s, %s", told(l), from, to, mid, told(a), told(b), told(d), told(c))
	}
	if whole := sheetOf(slices.Concat(a, b), from, to).list(); !slices.Equal(whole, out) {
		t.Errorf("out of %s from %#x to %#x come %s; in two parts at %#x %s", told(l), from, to, told(out), mid, told(whole))
	}
}

// TestExamples are the chapter's.
func TestExamples(t *testing.T) {
	wantAdd(t, nil, pages(1, 2, 3, 0), list(pages(1, 2, 3, 0)), api.OK)
	wantAdd(t, list(pages(1, 2, 3, 0)), pages(2, 3, 3, 0), list(pages(1, 3, 3, 0)), api.OK)
	l := list(pages(1, 3, 3, 0))
	wantCut(t, l, small, 2*small, list(pages(2, 3, 3, 0)), list(pages(1, 2, 3, 0)), api.OK)
	wantProtect(t, l, 2*small, 3*small, 1, list(pages(1, 2, 3, 0), pages(2, 3, 1, 0)), api.OK)
	wantProtect(t, l, 0, small, 1, nil, api.ErrUnmapped)
	wantGap(t, l, 0, 8*small, 2*small, small, 3*small, api.OK)
	wantGap(t, l, 0, 8*small, 6*small, small, 0, api.ErrNoMem)
	wantAt(t, l, 2*small+5, l[0], true)
}

// empties are the lists without a region.
func empties() [][]api.Region {
	return [][]api.Region{nil, {}, make([]api.Region, 0, 4), list(pages(5, 4, 9, 9), pages(1, 2, 3, 0))[:0]}
}

// several is a list with gaps, and with regions that touch.
func several() []api.Region {
	return list(pages(2, 4, 3, 0), pages(4, 5, 1, 0), pages(7, 9, 7, 1), pages(9, 12, 7, 2), pages(16, 17, 5, 2))
}

// badRegions are none that a valid list has, at whatever place.
func badRegions() []api.Region {
	good := pages(2, 4, 3, 0)
	out := list(api.Region{}, bytes(greatest, greatest, -1, -1))
	for _, from := range numbers {
		for _, to := range numbers {
			if !isRange(from, to) {
				out = append(out, bytes(from, to, 3, 0))
			}
		}
	}
	for _, perm := range badPerms {
		r := good
		r.Perm = perm
		out = append(out, r)
	}
	for _, kind := range badKinds {
		r := good
		r.Kind = kind
		out = append(out, r)
	}
	return out
}

// TestBadRegions holds the words of the chapter and of the test by regions that are written out.
func TestBadRegions(t *testing.T) {
	for _, r := range list(
		bytes(4097, 8192, 3, 0), bytes(1, 4096, 3, 0), bytes(4095, 8192, 3, 0), bytes(2048, 8192, 3, 0), bytes(4096, 8193, 3, 0), bytes(4096, 8191, 3, 0), bytes(4096, 4097, 3, 0), bytes(0, 2048, 3, 0),
		bytes(4096, 4096, 3, 0), bytes(0, 0, 3, 0), bytes(top, top, 3, 0), bytes(8192, 4096, 3, 0), bytes(top, 0, 3, 0), bytes(greatest-4095, 4096, 3, 0),
		bytes(0, top+4096, 3, 0), bytes(top-4096, top+4096, 3, 0), bytes(top, top+4096, 3, 0), bytes(top+4096, top+8192, 3, 0), bytes(0, top+1, 3, 0), bytes(0, greatest, 3, 0), bytes(0, greatest-4095, 3, 0),
		bytes(4096, 8192, 0, 0), bytes(4096, 8192, 8, 0), bytes(4096, 8192, -1, 0), bytes(4096, 8192, 3, -1), bytes(4096, 8192, 3, 3), bytes(4096, 8192, 0, 3), bytes(4096, 4097, 3, 3),
	) {
		if isRegion(r) {
			t.Errorf("%s is a region", told(list(r)))
		}
		wantAdd(t, nil, r, nil, api.ErrArg)
	}
	for _, from := range []uint64{0, 4096, 8192, top - 8192, top - 4096} {
		for _, to := range []uint64{4096, 8192, 12288, top - 4096, top} {
			for perm := 1; perm <= 7; perm++ {
				for kind := range 3 {
					if r := bytes(from, to, perm, kind); from < to {
						wantAdd(t, nil, r, list(r), api.OK)
						wantAt(t, list(r), from, r, true)
					}
				}
			}
		}
	}
}

// invalid are lists that are not valid, in each way, at the first region, at a middle one and at the last.
func invalid() [][]api.Region {
	good := several()
	var out [][]api.Region
	for _, r := range badRegions() {
		out = append(out, list(r), list(r, r))
		for i := range good {
			l := slices.Clone(good)
			l[i] = r
			out = append(out, l)
		}
	}
	for i, x := range good {
		for _, field := range []func(r *api.Region){
			func(r *api.Region) { r.From++ }, func(r *api.Region) { r.From-- }, func(r *api.Region) { r.From += 2048 }, func(r *api.Region) { r.To++ }, func(r *api.Region) { r.To-- }, func(r *api.Region) { r.To -= 2048 },
			func(r *api.Region) { r.From = r.To }, func(r *api.Region) { r.To = r.From }, func(r *api.Region) { r.From, r.To = r.To, r.From }, func(r *api.Region) { r.To = top + small }, func(r *api.Region) { r.To += 1 << 63 },
			func(r *api.Region) { r.Perm = 0 }, func(r *api.Region) { r.Perm = 8 }, func(r *api.Region) { r.Perm = -1 }, func(r *api.Region) { r.Kind = -1 }, func(r *api.Region) { r.Kind = 3 },
		} {
			l := slices.Clone(good)
			field(&l[i])
			out = append(out, l)
		}
		for j := range i {
			l := slices.Clone(good)
			l[i], l[j] = l[j], x
			out = append(out, l)
		}
		out = append(out, slices.Insert(slices.Clone(good), i, x))
	}
	return append(out, badPairs()...)
}

// badPairs are two regions, each of which might stand alone: the second one precedes, overlaps or continues the first.
func badPairs() [][]api.Region {
	var out [][]api.Region
	for _, m := range []mark{{3, 0}, {1, 0}, {3, 2}, {1, 2}} {
		for from := uint64(0); from < 6; from++ {
			for to := from + 1; to <= 8; to++ {
				out = append(out, list(pages(3, 6, 3, 0), pages(from, to, m.perm, m.kind)))
			}
		}
	}
	for perm := 1; perm <= 7; perm++ {
		for kind := range 3 {
			out = append(out, list(pages(3, 6, perm, kind), pages(6, 7, perm, kind)), list(pages(0, 1, perm, kind), pages(3, 6, perm, kind), pages(6, 7, perm, kind)), list(pages(3, 6, perm, kind), pages(6, 7, perm, kind), pages(8, 9, perm, kind)))
		}
	}
	return append(out, list(bytes(0, top-small, 3, 0), bytes(top-small, top, 3, 0)), list(bytes(0, top, 3, 0), bytes(0, top, 3, 1)), list(bytes(top-small, top, 3, 0), bytes(0, small, 3, 0)))
}

// TestInvalidLists holds that every call refuses a list that is not valid, whatever else is asked.
func TestInvalidLists(t *testing.T) {
	for _, l := range invalid() {
		if valid(l) {
			t.Errorf("%s is valid", told(l))
		}
		for _, r := range list(pages(20, 21, 3, 0), pages(3, 4, 3, 0), pages(0, 30, 1, 1), bytes(0, top, 7, 2), bytes(top-small, top, 1, 0), pages(20, 20, 3, 0), pages(2, 3, 0, 5), api.Region{}) {
			wantAdd(t, l, r, nil, api.ErrArg)
			wantCut(t, l, r.From, r.To, nil, nil, api.ErrArg)
			wantProtect(t, l, r.From, r.To, r.Perm, nil, api.ErrArg)
			wantProtect(t, l, r.From, r.To, 1, nil, api.ErrArg)
		}
		for _, x := range [][4]uint64{{0, top, small, small}, {0, top, huge, huge}, {huge, top, huge, small}, {0, 0, small, small}, {0, top, top, small}, {0, 1, huge, huge}, {4 * small, 8 * small, small, small}, {1, 0, 0, 0}} {
			wantGap(t, l, x[0], x[1], x[2], x[3], 0, api.ErrArg)
		}
		for va := range uint64(30) {
			wantAt(t, l, va*small, api.Region{}, false)
			wantAt(t, l, va*small+small-1, api.Region{}, false)
		}
		for _, va := range numbers {
			wantAt(t, l, va, api.Region{}, false)
		}
		for _, r := range l {
			wantAt(t, l, r.From, api.Region{}, false)
			wantAt(t, l, r.To-1, api.Region{}, false)
		}
	}
}

// knowns are valid lists of all lengths, the whole of the addresses and both ends of them among them.
func knowns() [][]api.Region {
	return append(empties(),
		list(pages(0, 1, 1, 0)), list(pages(1, 3, 3, 0)), list(bytes(top-small, top, 7, 2)), list(bytes(0, top, 5, 1)),
		list(bytes(0, small, 3, 0), bytes(top-small, top, 3, 0)), list(bytes(small, top-small, 3, 0)), list(bytes(0, huge, 1, 0), bytes(huge, 2*huge, 1, 1), bytes(2*huge, top, 2, 1)),
		list(bytes(small, huge, 1, 0), bytes(1<<40, 1<<46, 6, 1), bytes(1<<46, top-huge, 6, 2)), several(),
	)
}

// TestRefused holds the errors of Add, Cut and Protect for regions, ranges and permissions that are none, ahead of those that would follow.
func TestRefused(t *testing.T) {
	for _, l := range knowns() {
		if !valid(l) {
			t.Errorf("%s is not valid", told(l))
		}
		for _, r := range badRegions() {
			wantAdd(t, l, r, nil, api.ErrArg)
			if !isRange(r.From, r.To) {
				wantCut(t, l, r.From, r.To, nil, nil, api.ErrArg)
				wantProtect(t, l, r.From, r.To, 3, nil, api.ErrArg)
			}
		}
		for _, perm := range badPerms {
			for _, r := range append(list(pages(0, 1, 1, 0), pages(2, 4, 1, 0), pages(20, 30, 1, 0), bytes(0, top, 1, 0), bytes(top-small, top, 1, 0)), l...) {
				wantProtect(t, l, r.From, r.To, perm, nil, api.ErrArg)
			}
		}
		for _, r := range l {
			for _, x := range list(bytes(r.From+1, r.To, 3, 0), bytes(r.From, r.To-1, 3, 0), bytes(r.From, r.To, 3, 3), bytes(r.From, r.To, 0, 0), bytes(r.To, r.From, 3, 0), bytes(r.From, r.From, 3, 0)) {
				wantAdd(t, l, x, nil, api.ErrArg)
			}
			wantAdd(t, l, r, nil, api.ErrMapped)
		}
	}
}

// TestAdd holds P9.1 by lists that are written out.
func TestAdd(t *testing.T) {
	two := list(pages(4, 6, 3, 0), pages(10, 12, 3, 0))
	a, b := two[0], two[1]
	for _, c := range []struct {
		r    api.Region
		want []api.Region
	}{
		{pages(0, 1, 3, 0), list(pages(0, 1, 3, 0), a, b)}, {pages(1, 3, 1, 2), list(pages(1, 3, 1, 2), a, b)},
		{pages(13, 14, 3, 0), list(a, b, pages(13, 14, 3, 0))}, {bytes(top-small, top, 3, 0), list(a, b, bytes(top-small, top, 3, 0))},
		{pages(7, 9, 3, 0), list(a, pages(7, 9, 3, 0), b)}, {pages(7, 8, 5, 1), list(a, pages(7, 8, 5, 1), b)},
		{pages(3, 4, 3, 0), list(pages(3, 6, 3, 0), b)}, {pages(0, 4, 3, 0), list(pages(0, 6, 3, 0), b)}, {pages(3, 4, 1, 0), list(pages(3, 4, 1, 0), a, b)}, {pages(3, 4, 3, 1), list(pages(3, 4, 3, 1), a, b)}, {pages(3, 4, 2, 2), list(pages(3, 4, 2, 2), a, b)},
		{pages(6, 7, 3, 0), list(pages(4, 7, 3, 0), b)}, {pages(6, 7, 7, 0), list(a, pages(6, 7, 7, 0), b)}, {pages(6, 7, 3, 2), list(a, pages(6, 7, 3, 2), b)}, {pages(6, 7, 1, 1), list(a, pages(6, 7, 1, 1), b)},
		{pages(9, 10, 3, 0), list(a, pages(9, 12, 3, 0))}, {pages(9, 10, 1, 0), list(a, pages(9, 10, 1, 0), b)}, {pages(9, 10, 3, 1), list(a, pages(9, 10, 3, 1), b)},
		{pages(6, 10, 3, 0), list(pages(4, 12, 3, 0))}, {pages(6, 10, 1, 0), list(a, pages(6, 10, 1, 0), b)}, {pages(6, 10, 3, 1), list(a, pages(6, 10, 3, 1), b)}, {pages(6, 10, 4, 2), list(a, pages(6, 10, 4, 2), b)},
		{pages(12, 13, 3, 0), list(a, pages(10, 13, 3, 0))}, {bytes(12*small, top, 3, 0), list(a, bytes(10*small, top, 3, 0))}, {pages(12, 13, 3, 1), list(a, b, pages(12, 13, 3, 1))}, {bytes(12*small, top, 2, 0), list(a, b, bytes(12*small, top, 2, 0))},
	} {
		wantAdd(t, two, c.r, c.want, api.OK)
		isBack(t, two, c.r)
	}
	for _, r := range list(
		pages(3, 5, 3, 0), pages(5, 7, 3, 0), pages(4, 5, 3, 0), pages(5, 6, 3, 0), a, pages(0, 5, 1, 1), pages(3, 7, 3, 0), pages(4, 7, 3, 0), pages(3, 6, 3, 0), pages(9, 11, 1, 0), pages(11, 13, 1, 0), pages(11, 12, 3, 0), pages(10, 11, 3, 0), b,
		pages(5, 11, 3, 0), pages(6, 11, 3, 0), pages(5, 10, 3, 0), pages(0, 20, 3, 0), bytes(0, top, 3, 0), bytes(5*small, top, 7, 2), bytes(0, 11*small, 7, 2),
	) {
		for _, m := range []mark{{3, 0}, {1, 0}, {3, 1}, {7, 2}} {
			r.Perm, r.Kind = m.perm, m.kind
			wantAdd(t, two, r, nil, api.ErrMapped)
		}
	}
}

// TestAddBetween holds P9.1 for a region between two that touch it and are of every Perm and Kind.
func TestAddBetween(t *testing.T) {
	for _, x := range []mark{{3, 0}, {1, 0}, {3, 1}, {7, 2}} {
		for _, y := range []mark{{3, 0}, {1, 0}, {3, 1}, {7, 2}} {
			l := list(bytes(0, small, x.perm, x.kind), bytes(2*small, top, y.perm, y.kind))
			r := pages(1, 2, 3, 0)
			want := list(l[0], r, l[1])
			switch {
			case x == mark{3, 0} && y == x:
				want = list(bytes(0, top, 3, 0))
			case x == mark{3, 0}:
				want = list(pages(0, 2, 3, 0), l[1])
			case y == mark{3, 0}:
				want = list(l[0], bytes(small, top, 3, 0))
			}
			wantAdd(t, l, r, want, api.OK)
			isBack(t, l, r)
		}
	}
}

// TestCut holds P9.2 by lists that are written out: what stays and what comes out.
func TestCut(t *testing.T) {
	a, b, c, d := pages(2, 6, 3, 0), pages(6, 8, 1, 0), pages(10, 14, 3, 0), pages(20, 21, 7, 2)
	l := list(a, b, c, d)
	for _, x := range []struct {
		from, to  uint64
		rest, out []api.Region
	}{
		{0, 1, l, nil}, {0, 2, l, nil}, {1, 2, l, nil}, {8, 10, l, nil}, {8, 9, l, nil}, {9, 10, l, nil}, {14, 20, l, nil}, {15, 16, l, nil}, {21, 22, l, nil}, {21, top / small, l, nil}, {top/small - 1, top / small, l, nil},
		{2, 6, list(b, c, d), list(a)}, {6, 8, list(a, c, d), list(b)}, {10, 14, list(a, b, d), list(c)}, {20, 21, list(a, b, c), list(d)},
		{1, 6, list(b, c, d), list(a)}, {0, 6, list(b, c, d), list(a)}, {8, 16, list(a, b, d), list(c)}, {9, 14, list(a, b, d), list(c)}, {10, 15, list(a, b, d), list(c)}, {19, top / small, list(a, b, c), list(d)},
		{2, 3, list(pages(3, 6, 3, 0), b, c, d), list(pages(2, 3, 3, 0))}, {0, 4, list(pages(4, 6, 3, 0), b, c, d), list(pages(2, 4, 3, 0))}, {9, 11, list(a, b, pages(11, 14, 3, 0), d), list(pages(10, 11, 3, 0))},
		{5, 6, list(pages(2, 5, 3, 0), b, c, d), list(pages(5, 6, 3, 0))}, {12, 16, list(a, b, pages(10, 12, 3, 0), d), list(pages(12, 14, 3, 0))}, {7, 10, list(a, pages(6, 7, 1, 0), c, d), list(pages(7, 8, 1, 0))},
		{3, 5, list(pages(2, 3, 3, 0), pages(5, 6, 3, 0), b, c, d), list(pages(3, 5, 3, 0))}, {11, 12, list(a, b, pages(10, 11, 3, 0), pages(12, 14, 3, 0), d), list(pages(11, 12, 3, 0))},
		{5, 7, list(pages(2, 5, 3, 0), pages(7, 8, 1, 0), c, d), list(pages(5, 6, 3, 0), pages(6, 7, 1, 0))}, {2, 8, list(c, d), list(a, b)}, {2, 7, list(pages(7, 8, 1, 0), c, d), list(a, pages(6, 7, 1, 0))}, {5, 8, list(pages(2, 5, 3, 0), c, d), list(pages(5, 6, 3, 0), b)},
		{7, 11, list(a, pages(6, 7, 1, 0), pages(11, 14, 3, 0), d), list(pages(7, 8, 1, 0), pages(10, 11, 3, 0))}, {5, 13, list(pages(2, 5, 3, 0), pages(13, 14, 3, 0), d), list(pages(5, 6, 3, 0), b, pages(10, 13, 3, 0))}, {4, 21, list(pages(2, 4, 3, 0)), list(pages(4, 6, 3, 0), b, c, d)},
		{2, 21, nil, l}, {0, 21, nil, l}, {2, 30, nil, l}, {0, top / small, nil, l}, {3, 20, list(pages(2, 3, 3, 0), d), list(pages(3, 6, 3, 0), b, c)},
	} {
		wantCut(t, l, x.from*small, x.to*small, x.rest, x.out, api.OK)
	}
	for _, l := range empties() {
		wantCut(t, l, 0, small, nil, nil, api.OK)
		wantCut(t, l, 0, top, nil, nil, api.OK)
	}
	all := list(bytes(0, top, 3, 1))
	wantCut(t, all, 0, top, nil, all, api.OK)
	wantCut(t, all, 0, small, list(bytes(small, top, 3, 1)), list(bytes(0, small, 3, 1)), api.OK)
	wantCut(t, all, top-small, top, list(bytes(0, top-small, 3, 1)), list(bytes(top-small, top, 3, 1)), api.OK)
	wantCut(t, all, huge, huge+small, list(bytes(0, huge, 3, 1), bytes(huge+small, top, 3, 1)), list(bytes(huge, huge+small, 3, 1)), api.OK)
}

// TestProtect holds P9.3 by lists that are written out.
func TestProtect(t *testing.T) {
	a, b, c, d, e := pages(2, 6, 3, 0), pages(6, 8, 1, 0), pages(8, 10, 3, 1), pages(12, 14, 3, 0), pages(14, 15, 1, 0)
	l := list(a, b, c, d, e)
	for _, x := range []struct {
		from, to uint64
		perm     int
		want     []api.Region
	}{
		{2, 6, 3, l}, {2, 3, 3, l}, {3, 4, 3, l}, {6, 8, 1, l}, {7, 8, 1, l}, {9, 10, 3, l}, {14, 15, 1, l},
		{2, 6, 7, list(pages(2, 6, 7, 0), b, c, d, e)}, {2, 3, 7, list(pages(2, 3, 7, 0), pages(3, 6, 3, 0), b, c, d, e)}, {5, 6, 7, list(pages(2, 5, 3, 0), pages(5, 6, 7, 0), b, c, d, e)}, {3, 5, 7, list(pages(2, 3, 3, 0), pages(3, 5, 7, 0), pages(5, 6, 3, 0), b, c, d, e)},
		{2, 6, 1, list(pages(2, 8, 1, 0), c, d, e)}, {5, 6, 1, list(pages(2, 5, 3, 0), pages(5, 8, 1, 0), c, d, e)}, {2, 3, 1, list(pages(2, 3, 1, 0), pages(3, 6, 3, 0), b, c, d, e)},
		{6, 8, 3, list(pages(2, 8, 3, 0), c, d, e)}, {6, 7, 3, list(pages(2, 7, 3, 0), pages(7, 8, 1, 0), c, d, e)}, {7, 8, 3, list(a, pages(6, 7, 1, 0), pages(7, 8, 3, 0), c, d, e)},
		{8, 10, 1, list(a, b, pages(8, 10, 1, 1), d, e)}, {12, 14, 1, list(a, b, c, pages(12, 15, 1, 0))}, {14, 15, 3, list(a, b, c, pages(12, 15, 3, 0))}, {12, 15, 5, list(a, b, c, pages(12, 15, 5, 0))}, {13, 15, 2, list(a, b, c, pages(12, 13, 3, 0), pages(13, 15, 2, 0))},
		{2, 10, 3, list(pages(2, 8, 3, 0), c, d, e)}, {2, 10, 1, list(pages(2, 8, 1, 0), pages(8, 10, 1, 1), d, e)}, {2, 10, 6, list(pages(2, 8, 6, 0), pages(8, 10, 6, 1), d, e)}, {5, 9, 4, list(pages(2, 5, 3, 0), pages(5, 8, 4, 0), pages(8, 9, 4, 1), pages(9, 10, 3, 1), d, e)}, {3, 8, 1, list(pages(2, 3, 3, 0), pages(3, 8, 1, 0), c, d, e)},
	} {
		wantProtect(t, l, x.from*small, x.to*small, x.perm, x.want, api.OK)
	}
	for _, r := range [][2]uint64{{0, 1}, {0, 2}, {1, 2}, {1, 3}, {1, 6}, {0, 10}, {9, 11}, {8, 11}, {2, 11}, {2, 12}, {9, 13}, {10, 12}, {10, 11}, {11, 12}, {10, 14}, {11, 15}, {2, 15}, {14, 16}, {12, 16}, {15, 16}, {15, 17}, {20, 21}, {2, top / small}, {0, top / small}} {
		for perm := 1; perm <= 7; perm++ {
			wantProtect(t, l, r[0]*small, r[1]*small, perm, nil, api.ErrUnmapped)
		}
	}
	for _, l := range empties() {
		wantProtect(t, l, 0, small, 1, nil, api.ErrUnmapped)
		wantProtect(t, l, 0, top, 1, nil, api.ErrUnmapped)
	}
	all := list(bytes(0, huge, 3, 1), bytes(huge, top, 1, 1))
	wantProtect(t, all, 0, top, 7, list(bytes(0, top, 7, 1)), api.OK)
	wantProtect(t, all, 0, huge, 1, list(bytes(0, top, 1, 1)), api.OK)
	wantProtect(t, all, top-small, top, 3, list(all[0], bytes(huge, top-small, 1, 1), bytes(top-small, top, 3, 1)), api.OK)
}

// TestPerms holds which permissions Protect takes, and that the error for them is told ahead of the one for a gap.
func TestPerms(t *testing.T) {
	l := list(pages(1, 3, 3, 0), pages(3, 4, 5, 2))
	for perm := -1; perm <= 9; perm++ {
		if perm < 1 || perm > 7 {
			wantProtect(t, l, small, 2*small, perm, nil, api.ErrArg)
			wantProtect(t, l, 0, small, perm, nil, api.ErrArg)
			continue
		}
		want := list(pages(1, 2, perm, 0), pages(2, 3, 3, 0), l[1])
		if perm == 3 {
			want = l
		}
		wantProtect(t, l, small, 2*small, perm, want, api.OK)
		wantProtect(t, l, small, 4*small, perm, list(pages(1, 3, perm, 0), pages(3, 4, perm, 2)), api.OK)
		wantProtect(t, l, 0, small, perm, nil, api.ErrUnmapped)
		wantProtect(t, l, 0, small+1, perm, nil, api.ErrArg)
	}
}

// TestGap holds P9.4 with the smaller step, by gaps that are written out.
func TestGap(t *testing.T) {
	l := list(pages(2, 4, 3, 0), pages(4, 5, 1, 0), pages(8, 10, 3, 1), pages(20, 21, 3, 2))
	for _, x := range []struct{ lo, hi, size, want uint64 }{
		{0, 30, 1, 0}, {0, 30, 2, 0}, {0, 30, 3, 5}, {0, 30, 4, 10}, {0, 30, 10, 10}, {0, 31, 10, 10}, {0, 32, 11, 21}, {0, 1 << 35, 1<<35 - 21, 21}, {1, 30, 1, 1}, {1, 30, 2, 5}, {2, 30, 1, 5}, {3, 30, 3, 5}, {4, 30, 1, 5}, {5, 30, 1, 5}, {5, 30, 3, 5}, {6, 30, 2, 6}, {6, 30, 3, 10}, {7, 30, 1, 7}, {7, 30, 2, 10},
		{8, 30, 1, 10}, {9, 30, 1, 10}, {10, 30, 10, 10}, {11, 30, 9, 11}, {20, 30, 9, 21}, {21, 30, 9, 21}, {22, 30, 8, 22}, {29, 30, 1, 29}, {0, 1, 1, 0}, {0, 2, 2, 0}, {1, 2, 1, 1}, {2, 6, 1, 5}, {2, 8, 3, 5}, {2, 9, 3, 5}, {10, 20, 10, 10}, {0, 1 << 35, 1<<35 - 22, 21}, {1<<35 - 1, 1 << 35, 1, 1<<35 - 1},
	} {
		wantGap(t, l, x.lo*small, x.hi*small, x.size*small, small, x.want*small, api.OK)
	}
	for _, x := range []struct{ lo, hi, size uint64 }{
		{0, 30, 11}, {0, 31, 11}, {1, 2, 2}, {2, 5, 1}, {2, 4, 1}, {3, 5, 1}, {2, 7, 3}, {5, 7, 3}, {5, 8, 4}, {6, 8, 3}, {6, 9, 3}, {6, 10, 3}, {0, 12, 4}, {11, 20, 10}, {11, 21, 10}, {20, 21, 1}, {21, 30, 10}, {0, 0, 1}, {2, 2, 1}, {5, 5, 1}, {30, 30, 1}, {0, 1, 2}, {0, 1 << 35, 1<<35 - 20}, {0, 1 << 35, 1 << 35}, {0, 1 << 35, 1<<35 + 1}, {0, 1 << 35, 1 << 51}, {0, 1 << 35, 1<<52 - 1}, {1 << 35, 1 << 35, 1}, {1<<35 - 1, 1 << 35, 2},
		{5, 1 << 35, 1<<52 - 5}, {5, 1 << 35, 1<<52 - 2}, {22, 1 << 35, 1<<35 - 21},
	} {
		wantGap(t, l, x.lo*small, x.hi*small, x.size*small, small, 0, api.ErrNoMem)
	}
	for _, hi := range []uint64{1, 2, 4095} {
		wantGap(t, nil, 0, hi, small, small, 0, api.ErrNoMem)
		wantGap(t, l, 5*small, 6*small+hi, 2*small, small, 0, api.ErrNoMem)
		wantGap(t, l, 5*small, 6*small+hi, small, small, 5*small, api.OK)
		wantGap(t, l, 0, 8*small+hi, 3*small, small, 5*small, api.OK)
		wantGap(t, l, 0, 21*small+hi, 11*small, small, 0, api.ErrNoMem)
	}
	wantGap(t, list(bytes(0, top, 1, 0)), 0, top, small, small, 0, api.ErrNoMem)
	wantGap(t, list(bytes(small, top, 1, 0)), 0, top, small, small, 0, api.OK)
	wantGap(t, list(bytes(0, top-small, 1, 0)), 0, top, small, small, top-small, api.OK)
	wantGap(t, list(bytes(0, top-small, 1, 0)), 0, top-1, small, small, 0, api.ErrNoMem)
}

// TestGapHuge holds P9.4 with the greater step: gaps are as large as from their first multiple of it on.
func TestGapHuge(t *testing.T) {
	l := list(bytes(small, huge, 3, 0), bytes(2*huge+small, 3*huge-small, 3, 0), bytes(6*huge-small, 6*huge, 1, 0), bytes(6*huge, 6*huge+small, 3, 0), bytes(10*huge, 11*huge, 1, 1))
	for _, x := range []struct{ lo, hi, size, want uint64 }{
		{0, 20, 1, 1}, {1, 20, 1, 1}, {2, 20, 1, 3}, {3, 20, 1, 3}, {0, 20, 2, 3}, {1, 20, 2, 3}, {4, 20, 1, 4}, {4, 20, 2, 7}, {5, 20, 1, 7}, {6, 20, 1, 7}, {7, 20, 3, 7}, {0, 20, 3, 7}, {0, 20, 4, 11}, {8, 20, 2, 8}, {8, 20, 3, 11}, {0, 20, 9, 11}, {10, 20, 9, 11}, {0, 2, 1, 1}, {3, 5, 2, 3}, {0, 1 << 26, 1<<26 - 11, 11}, {1<<26 - 1, 1 << 26, 1, 1<<26 - 1},
	} {
		wantGap(t, l, x.lo*huge, x.hi*huge, x.size*huge, huge, x.want*huge, api.OK)
	}
	for _, x := range []struct{ lo, hi, size uint64 }{
		{0, 1, 1}, {0, 2, 2}, {1, 3, 2}, {2, 3, 1}, {2, 4, 2}, {3, 6, 3}, {5, 6, 1}, {5, 7, 1}, {6, 7, 1}, {6, 10, 4}, {7, 10, 4}, {8, 11, 3}, {10, 11, 1}, {0, 20, 10}, {11, 20, 10}, {0, 1 << 26, 1<<26 - 10}, {0, 1 << 26, 1 << 26}, {0, 1 << 26, 1 << 42}, {0, 1 << 26, 1<<43 - 1}, {1 << 26, 1 << 26, 1}, {0, 0, 1},
	} {
		wantGap(t, l, x.lo*huge, x.hi*huge, x.size*huge, huge, 0, api.ErrNoMem)
	}
	for _, c := range []struct{ hi, size, want uint64 }{{2*huge - 1, huge, 0}, {2*huge + 1, huge, huge}, {2*huge + small, huge, huge}, {5*huge - 1, 2 * huge, 0}, {5*huge + 1, 2 * huge, 3 * huge}, {10*huge - 1, 3 * huge, 0}, {10*huge + 1, 3 * huge, 7 * huge}} {
		e := api.OK
		if c.want == 0 {
			e = api.ErrNoMem
		}
		wantGap(t, l, huge, c.hi, c.size, huge, c.want, e)
	}
	wantGap(t, nil, 0, huge-1, huge, huge, 0, api.ErrNoMem)
	wantGap(t, list(bytes(huge, top, 1, 0)), 0, top, huge, huge, 0, api.OK)
	wantGap(t, list(bytes(huge-small, top, 1, 0)), 0, top, huge, huge, 0, api.ErrNoMem)
	wantGap(t, list(bytes(0, top-huge, 1, 0)), 0, top, huge, huge, top-huge, api.OK)
	wantGap(t, list(bytes(0, top-huge+small, 1, 0)), 0, top, huge, huge, 0, api.ErrNoMem)
	wantGap(t, list(bytes(0, top-huge-small, 1, 0)), 0, top, huge, huge, top-huge, api.OK)
	wantGap(t, list(bytes(0, small, 1, 0), bytes(2*huge, top, 1, 0)), 0, top, 2*huge, huge, 0, api.ErrNoMem)
	wantGap(t, list(bytes(0, small, 1, 0), bytes(2*huge, top, 1, 0)), 0, top, 2*huge-small, small, small, api.OK)
}

// TestGapRefused holds which arguments P9.4 refuses, where there is room and where there is none.
func TestGapRefused(t *testing.T) {
	for _, l := range append(knowns(), list(bytes(0, top, 1, 0))) {
		for _, step := range append(slices.Clone(numbers), 2, 512, 2048, 8192, 1<<20, 1<<22, 1<<30, 4096*3, 2097152*3, 2097152+4096, 4096+1<<32, 2097152+1<<32) {
			if step == small || step == huge {
				continue
			}
			wantGap(t, l, 0, top, small, step, 0, api.ErrArg)
			wantGap(t, l, 0, top, huge, step, 0, api.ErrArg)
			wantGap(t, l, 0, top, step, step, 0, api.ErrArg)
			wantGap(t, l, step, top, step, step, 0, api.ErrArg)
		}
		for _, step := range []uint64{small, huge} {
			for _, off := range []uint64{1, 2, 2048, 4095, step - 1, step - 2048, step / 2} {
				wantGap(t, l, off, top, step, step, 0, api.ErrArg)
				wantGap(t, l, step+off, top, step, step, 0, api.ErrArg)
				wantGap(t, l, 0, top, off, step, 0, api.ErrArg)
				wantGap(t, l, 0, top, step+off, step, 0, api.ErrArg)
				wantGap(t, l, 0, top, greatest-step+1+off, step, 0, api.ErrArg)
			}
			for _, x := range [][3]uint64{
				{0, top, 0}, {0, 0, 0}, {top, top, 0}, {step, 0, step}, {step, 1, step}, {step, step - 1, step}, {2 * step, step, step}, {top, top - 1, step}, {top, 0, step}, {top + step, top, step}, {top + step, top + step, step},
				{0, top + 1, step}, {0, top + step, step}, {top, top + 1, step}, {0, 1 << 48, step}, {0, 1 << 63, step}, {0, greatest, step}, {greatest - step + 1, greatest, step}, {greatest - step + 1, 0, step}, {greatest - step + 1, top, step}, {1 << 63, top, step},
			} {
				wantGap(t, l, x[0], x[1], x[2], step, 0, api.ErrArg)
			}
		}
		wantGap(t, l, small, top, huge, huge, 0, api.ErrArg)
		wantGap(t, l, 0, top, huge+small, huge, 0, api.ErrArg)
		wantGap(t, l, huge-small, top, huge, huge, 0, api.ErrArg)
	}
}

// least is P9.4 without pages, so that gaps may be of any size: the first gap of all begins at lo, or at the next multiple of step behind some region.
func least(l []api.Region, lo, hi, size, step uint64) (uint64, api.Errno) {
	if !soundGap(l, lo, hi, size, step) {
		return 0, api.ErrArg
	}
	starts := []uint64{lo}
	for _, r := range l {
		if at := (r.To + step - 1) / step * step; at > lo {
			starts = append(starts, at)
		}
	}
	for _, at := range starts {
		if at <= hi && size <= hi-at && !slices.ContainsFunc(l, func(r api.Region) bool { return r.From < at+size && at < r.To }) {
			return at, api.OK
		}
	}
	return 0, api.ErrNoMem
}

// TestGapNumbers holds P9.4 for all numbers that matter.
func TestGapNumbers(t *testing.T) {
	for _, l := range knowns() {
		for _, step := range []uint64{small, huge, 0, 1, top} {
			for _, lo := range numbers {
				for _, hi := range numbers {
					for _, size := range numbers {
						want, e := least(l, lo, hi, size, step)
						wantGap(t, l, lo, hi, size, step, want, e)
					}
				}
			}
		}
	}
}

// TestAt holds P9.5 at every boundary of lists, one below and one above each, and at all numbers that matter.
func TestAt(t *testing.T) {
	for _, l := range knowns() {
		for _, r := range l {
			wantAt(t, l, r.From, r, true)
			wantAt(t, l, r.From+1, r, true)
			wantAt(t, l, r.To-1, r, true)
			holdAt(t, l, r.From-1)
			holdAt(t, l, r.To)
			holdAt(t, l, r.To+1)
		}
		for _, va := range numbers {
			holdAt(t, l, va)
		}
		for _, va := range []uint64{top, top + 1, 1 << 48, 1 << 63, greatest - 1, greatest} {
			wantAt(t, l, va, api.Region{}, false)
		}
	}
	l := list(pages(1, 2, 3, 0), pages(2, 3, 1, 2), pages(4, 5, 3, 1))
	for _, x := range []struct {
		va uint64
		i  int
	}{{0, -1}, {4095, -1}, {4096, 0}, {8191, 0}, {8192, 1}, {12287, 1}, {12288, -1}, {16383, -1}, {16384, 2}, {20479, 2}, {20480, -1}, {top - 1, -1}, {top, -1}, {greatest, -1}} {
		if x.i < 0 {
			wantAt(t, l, x.va, api.Region{}, false)
		} else {
			wantAt(t, l, x.va, l[x.i], true)
		}
	}
	ends := list(bytes(0, small, 1, 0), bytes(top-small, top, 7, 2))
	wantAt(t, ends, 0, ends[0], true)
	wantAt(t, ends, top-1, ends[1], true)
	wantAt(t, ends, top, api.Region{}, false)
	wantAt(t, ends, top+small-1, api.Region{}, false)
}

// markAt is what a list says of an address.
func markAt(l []api.Region, va uint64) mark {
	for _, r := range l {
		if r.From <= va && va < r.To {
			return markOf(r)
		}
	}
	return mark{}
}

// holdAll holds that out is the valid list that is wanted by a function of addresses, which changes at no others than the boundaries of l, of out and of the range.
func holdAll(t *testing.T, what string, l, out []api.Region, from, to uint64, want func(va uint64) mark) {
	t.Helper()
	points := []uint64{0, from, to}
	for _, r := range slices.Concat(l, out) {
		points = append(points, r.From, r.To)
	}
	if !valid(out) {
		t.Errorf("%s of %s: %s is not valid", what, told(l), told(out))
	}
	for _, va := range points {
		if va < top && markAt(out, va) != want(va) {
			t.Errorf("%s, %#x, %#x of %s: %s; at %#x want %v", what, from, to, told(l), told(out), va, want(va))
		}
	}
}

// TestWide holds P9.1 to P9.3 for lists and ranges of any size, by addresses.
func TestWide(t *testing.T) {
	for _, l := range knowns() {
		for _, from := range numbers {
			for _, to := range numbers {
				if !isRange(from, to) {
					continue
				}
				in := func(va uint64) bool { return from <= va && va < to }
				rest, out := cut(t, l, from, to)
				holdAll(t, "Cut", l, rest, from, to, func(va uint64) mark {
					if in(va) {
						return mark{}
					}
					return markAt(l, va)
				})
				holdAll(t, "Cut out", l, out, from, to, func(va uint64) mark {
					if in(va) {
						return markAt(l, va)
					}
					return mark{}
				})
				whole, some := wideIn(out, from, to)
				for _, m := range []mark{{1, 0}, {3, 0}, {5, 1}, {6, 2}} {
					wideAdd(t, l, bytes(from, to, m.perm, m.kind), some)
					wideProtect(t, l, from, to, m.perm, whole)
				}
			}
		}
	}
}

// wideIn says of the parts of a range whether they are the whole of it, and whether there are some.
func wideIn(parts []api.Region, from, to uint64) (bool, bool) {
	n := uint64(0)
	for _, r := range parts {
		n += r.To - r.From
	}
	return n == to-from, n > 0
}

func wideAdd(t *testing.T, l []api.Region, r api.Region, mapped bool) {
	t.Helper()
	if mapped {
		wantAdd(t, l, r, nil, api.ErrMapped)
		return
	}
	holdAll(t, "Add", l, added(t, l, r), r.From, r.To, func(va uint64) mark {
		if r.From <= va && va < r.To {
			return markOf(r)
		}
		return markAt(l, va)
	})
	isBack(t, l, r)
}

func wideProtect(t *testing.T, l []api.Region, from, to uint64, perm int, whole bool) {
	t.Helper()
	if !whole {
		wantProtect(t, l, from, to, perm, nil, api.ErrUnmapped)
		return
	}
	out, e := region.Protect(l, from, to, perm)
	if e != api.OK {
		t.Errorf("Protect(%s, %#x, %#x, %d): %d", told(l), from, to, perm, e)
	}
	holdAll(t, "Protect", l, out, from, to, func(va uint64) mark {
		m := markAt(l, va)
		if from <= va && va < to {
			m.perm = perm
		}
		return m
	})
}

// bases are where windows of so many pages lie: at both ends of the addresses and between them.
func bases(width uint64) []uint64 {
	return []uint64{0, small, huge - width/2*small, 1 << 46, top - (width+1)*small, top - width*small}
}

// patterns calls visit with each list whose regions lie in the window.
func patterns(base uint64, width int, visit func(l []api.Region)) {
	marks := []mark{{}, {3, 0}, {1, 0}, {3, 1}}
	s := sheet{base, make([]mark, width)}
	for n := range 1 << (2 * width) {
		for i := range s.marks {
			s.marks[i] = marks[n>>(2*i)&3]
		}
		visit(s.list())
	}
}

// TestEvery holds all promises for every list of a few pages, and every region and range of them.
func TestEvery(t *testing.T) {
	const width = 4
	for _, base := range bases(width) {
		patterns(base, width, func(l []api.Region) {
			for from := base; from < base+width*small; from += small {
				for to := from + small; to <= base+width*small; to += small {
					every(t, l, from, to)
				}
				for _, va := range []uint64{from - 1, from, from + 1, from + 4095} {
					holdAt(t, l, va)
				}
			}
			gaps(t, l, base, width)
		})
	}
}

// every makes the calls for a range.
func every(t *testing.T, l []api.Region, from, to uint64) {
	t.Helper()
	_, out, _ := wasCut(l, from, to)
	for _, m := range []mark{{3, 0}, {1, 0}, {3, 1}, {1, 1}} {
		r := bytes(from, to, m.perm, m.kind)
		holdAdd(t, l, r)
		if len(out) == 0 {
			isBack(t, l, r)
		}
	}
	holdCut(t, l, from, to)
	for mid := from + small; mid < to; mid += small {
		inTwo(t, l, from, mid, to)
	}
	for _, perm := range []int{1, 3, 7} {
		holdProtect(t, l, from, to, perm)
	}
}

// gaps makes the calls for all ends of gaps in a window, which begins at base, and for a page more on both sides.
func gaps(t *testing.T, l []api.Region, base uint64, width int) {
	t.Helper()
	for i := range width + 3 {
		for j := i; j < width+3; j++ {
			lo, hi := base+uint64(i)*small-small, base+uint64(j)*small-small
			if lo > top || hi > top {
				continue
			}
			for n := range uint64(width + 3) {
				holdGap(t, l, lo, hi, n*small, small)
			}
			if hi > lo {
				holdGap(t, l, lo, hi-1, 2*small, small)
				holdGap(t, l, lo, hi-small+1, small, small)
			}
		}
	}
}

// spare is a copy of l amid regions that belong to someone else: one ahead of it, the others its spare room.
func spare(l []api.Region) ([]api.Region, []api.Region) {
	other := pages(77, 78, 7, 2)
	all := slices.Concat(list(other), l, list(other, other, other, other, other))
	return all[1 : 1+len(l)], all
}

// scribbled writes a region of its own into all memory of each list, and says whether each of them keeps its own.
func scribbled(lists [][]api.Region) bool {
	for i, l := range lists {
		for j := range l[:cap(l)] {
			l[:cap(l)][j] = pages(1, 2, 100+i, 99)
		}
	}
	for i, l := range lists {
		for _, r := range l[:cap(l)] {
			if r != pages(1, 2, 100+i, 99) {
				return false
			}
		}
	}
	return true
}

// TestNewMemory holds R3: no call writes into the list that it is given or into its spare room, and what is returned is new memory.
func TestNewMemory(t *testing.T) {
	lists := knowns()
	patterns(huge-2*small, 3, func(l []api.Region) { lists = append(lists, l) })
	for _, known := range lists {
		for _, r := range list(pages(0, 1, 3, 0), pages(510, 511, 3, 0), pages(511, 512, 1, 0), pages(512, 513, 3, 1), pages(510, 512, 3, 0), pages(2, 4, 3, 0), pages(3, 8, 1, 0), pages(12, 16, 7, 2), bytes(top-small, top, 3, 0), bytes(0, top, 1, 0), pages(20, 20, 3, 0)) {
			l, all := spare(known)
			kept := slices.Clone(all)
			var results [][]api.Region
			for range 2 {
				a, _ := region.Add(l, r)
				b, c, _ := region.Cut(l, r.From, r.To)
				d, _ := region.Protect(l, r.From, r.To, 7)
				e, _ := region.Protect(l, r.From, r.To, r.Perm)
				results = append(results, a, b, c, d, e)
			}
			region.Gap(l, r.From, top, small, small)
			region.Gap(l, 0, r.To, huge, huge)
			region.At(l, r.From)
			if !slices.Equal(all, kept) {
				t.Fatalf("calls of %s and %s have written into the list: %s", told(known), told(list(r)), told(all))
			}
			if !scribbled(results) {
				t.Fatalf("results of %s and %s share memory", told(known), told(list(r)))
			}
			if !slices.Equal(all, kept) {
				t.Fatalf("a result of %s and %s shares memory with the list", told(known), told(list(r)))
			}
		}
	}
}

// window is so many pages from base on, of which random calls are made.
type window struct {
	*rand.Rand
	base, width uint64
}

// anywhere is a number of pages or of its addresses, now and then one that is wrong.
func (w window) anywhere() uint64 {
	at := w.base + uint64(w.Int63n(int64(w.width+1)))*small
	switch w.Intn(40) {
	case 0:
		return at + uint64(w.Intn(4096))
	case 1:
		return at - uint64(w.Intn(3))
	}
	return at
}

// perm is one, seldom one that is wrong; few, so that neighbours are alike.
func (w window) perm() int {
	if w.Intn(50) == 0 {
		return w.Intn(13) - 2
	}
	return []int{1, 3, 3, 7}[w.Intn(4)]
}

func (w window) kind() int {
	if w.Intn(60) == 0 {
		return w.Intn(6) - 1
	}
	return []int{0, 0, 1, 2}[w.Intn(4)]
}

// ends are mostly in order, and mostly near each other.
func (w window) ends() (uint64, uint64) {
	from, to := w.anywhere(), w.anywhere()
	if w.Intn(2) == 0 {
		to = from + uint64(1+w.Intn(3))*small
	}
	if w.Intn(20) > 0 {
		from, to = min(from, to), max(from, to)
	}
	if to-from > w.width*small && isRange(from, to) {
		return w.base, w.base + w.width*small
	}
	return from, to
}

// spoilt is l, with something else in one of its regions, or in another order.
func (w window) spoilt(l []api.Region) []api.Region {
	out := slices.Clone(l)
	if len(out) == 0 {
		return append(out, bytes(w.anywhere(), w.anywhere(), w.perm(), w.kind()))
	}
	i, j := w.Intn(len(out)), w.Intn(len(out))
	switch w.Intn(7) {
	case 0:
		out[i], out[j] = out[j], out[i]
	case 1:
		out[i].From = w.anywhere()
	case 2:
		out[i].To = w.anywhere()
	case 3:
		out[i].Perm = w.Intn(10) - 1
	case 4:
		out[i].Kind = w.Intn(5) - 1
	case 5:
		out[i].Perm, out[i].Kind = out[j].Perm, out[j].Kind
	case 6:
		out = slices.Insert(out, j, out[i])
	}
	return out
}

// step makes a call of each kind on l against the models, and answers the list that one of them has made.
func (w window) step(t *testing.T, l []api.Region) []api.Region {
	t.Helper()
	from, to := w.ends()
	r := bytes(from, to, w.perm(), w.kind())
	holdAdd(t, l, r)
	holdCut(t, l, from, to)
	holdProtect(t, l, from, to, r.Perm)
	w.gap(t, l)
	holdAt(t, l, w.anywhere())
	holdAt(t, l, w.base+uint64(w.Int63n(int64(w.width*small))))
	more, e := region.Add(l, r)
	if e == api.OK {
		isBack(t, l, r)
	}
	less, _, f := region.Cut(l, from, to)
	if f == api.OK {
		w.cuts(t, l, from, to)
	}
	other, g := region.Protect(l, from, to, r.Perm)
	switch n := w.Intn(8); {
	case e == api.OK && n < 7:
		return more
	case g == api.OK && n < 4:
		return other
	case f == api.OK && n > 5:
		return less
	}
	return l
}

// cuts cuts a range in two parts: at each of its pages, if these are few.
func (w window) cuts(t *testing.T, l []api.Region, from, to uint64) {
	t.Helper()
	every := max(1, (to-from)/small/24)
	for mid := from + every*small; mid < to; mid += every * small {
		inTwo(t, l, from, mid, to)
	}
}

// gap makes a call of Gap with one of the steps, seldom another one.
func (w window) gap(t *testing.T, l []api.Region) {
	t.Helper()
	lo, hi := w.ends()
	step := []uint64{small, small, small, huge}[w.Intn(4)]
	if w.Intn(40) == 0 {
		step = uint64(w.Intn(10)) * 2048
	}
	if step == huge && w.Intn(5) > 0 {
		lo = lo / huge * huge
	}
	size := uint64(w.Intn(6)) * step
	if w.Intn(30) == 0 {
		size += uint64(w.Intn(4096))
	}
	holdGap(t, l, lo, hi, size, step)
}

// TestLongRuns holds all promises for long runs of random calls, each of which goes on with the list that an earlier one has made.
func TestLongRuns(t *testing.T) {
	for _, width := range []uint64{6, 24} {
		for i, base := range bases(width) {
			w := window{rand.New(rand.NewSource(int64(i) + int64(width))), base, width}
			var l []api.Region
			for range 6000 {
				l = w.step(t, l)
				if bad := w.spoilt(l); w.Intn(4) == 0 {
					w.step(t, bad)
				}
			}
			if t.Failed() {
				return
			}
		}
	}
}

// TestLongRunsHuge does so where there are several huge pages.
func TestLongRunsHuge(t *testing.T) {
	const width = 6 * 512
	for i, base := range []uint64{0, huge, 1<<46 - huge, top - width*small} {
		w := window{rand.New(rand.NewSource(int64(i))), base, width}
		var l []api.Region
		for range 600 {
			l = w.step(t, l)
			if w.Intn(4) == 0 {
				w.step(t, w.spoilt(l))
			}
			for _, lo := range []uint64{base, base + huge, base + 3*huge} {
				for n := range uint64(4) {
					holdGap(t, l, lo, w.base+uint64(w.Int63n(width*4096)), n*huge, huge)
					holdGap(t, l, lo, w.base+width*small, n*huge, huge)
				}
			}
			if len(l) > 12 {
				l, _ = cut(t, l, base, base+uint64(1+w.Int63n(width))*small)
			}
		}
		if t.Failed() {
			return
		}
	}
}
