package radix_test

import (
	"cmp"
	"maps"
	"math"
	"math/rand"
	"slices"
	"testing"

	"hayward/api"
	"hayward/frame"
	"hayward/radix"
)

// The signatures are part of the chapter.
var (
	_ func(p *frame.Pool) (*radix.Tree, api.Errno)                   = radix.New
	_ func(t *radix.Tree, m api.Mapping) api.Errno                   = (*radix.Tree).Map
	_ func(t *radix.Tree, va uint64) (api.Mapping, api.Errno)        = (*radix.Tree).Unmap
	_ func(t *radix.Tree, va uint64, perm int) api.Errno             = (*radix.Tree).Protect
	_ func(t *radix.Tree, va uint64, want int) (uint64, api.Errno)   = (*radix.Tree).Walk
	_ func(t *radix.Tree) []api.Mapping                              = (*radix.Tree).Pages
	_ func(t *radix.Tree) uint64                                     = (*radix.Tree).Root
	_ func(t *radix.Tree) []uint64                                   = (*radix.Tree).Tables
	_ func(t *radix.Tree, f uint64, i int) (word uint64, table bool) = (*radix.Tree).Word
	_ func(t *radix.Tree) api.Errno                                  = (*radix.Tree).Drop
)

const (
	small    = uint64(4096)
	huge     = uint64(2097152)
	top      = uint64(1) << 47
	greatest = uint64(math.MaxUint64)
)

var (
	// addresses are numbers around which something changes; some are no address, or no page's.
	addresses = []uint64{
		0, 1, 4095, 4096, 4097, 8192, huge - 4096, huge - 1, huge, huge + 1, huge + 2048, huge + 4096, 1<<30 - 4096, 1 << 30, 1<<39 - huge, 1 << 39, 1<<46 + huge,
		top - huge, top - huge - 4096, top - 4096, top - 2, top - 1, top, top + 4096, top + huge, 1 << 48, 1<<63 - 4096, 1 << 63, 1<<63 + huge,
		greatest - huge + 1, greatest - small + 1, greatest - 1, greatest,
	}
	// frames are numbers around which something changes.
	frames = []uint64{0, 1, 9, 511, 512, 513, 768, 1024, 1<<36 - 1024, 1<<36 - 512, 1<<36 - 511, 1<<36 - 1, 1 << 36, 1<<36 + 1, 1<<36 + 512, 1 << 52, 1 << 63, greatest - 511, greatest}
	// perms are the sums of the permissions, what exceeds them, and numbers with bits far above.
	perms = []int{
		0, 1, 2, 3, 4, 5, 6, 7, 8, 9, 10, 11, 12, 13, 14, 15, 16, 17, 64 + 7, 128 + 3, 256 + 1, 1<<31 + 7, 1 << 32, 1<<32 + 1, 1<<32 + 3, 1<<62 + 7,
		-1, -2, -7, -8, math.MaxInt64, math.MinInt64, math.MinInt64 + 1, math.MinInt64 + 7,
	}
	// wants are what may be wanted, and what may not.
	wants = slices.Concat([]int{-1}, perms)
)

// spot is a table's place: its level, and how many tables of the level describe lower addresses.
type spot struct {
	level  int
	number uint64
}

// span is how many addresses a word of the level describes.
func span(level int) uint64 {
	size := small
	for range level - 1 {
		size *= 512
	}
	return size
}

// spotOf is the table of the level that describes va.
func spotOf(va uint64, level int) spot {
	return spot{level, va / (512 * span(level))}
}

// levelOf is the level of the table that maps the page.
func levelOf(x api.Mapping) int {
	if x.Huge {
		return 2
	}
	return 1
}

// contains says whether va is an address of the page.
func contains(x api.Mapping, va uint64) bool {
	return va >= x.Va && va-x.Va < span(levelOf(x))
}

// isPerm says whether a page may have these permissions, by listing.
func isPerm(perm int) bool {
	return slices.Contains([]int{1, 3, 5, 7}, perm)
}

// sound is the chapter's word of a page that may be mapped.
func sound(x api.Mapping) bool {
	return x.Va%span(levelOf(x)) == 0 && x.Va < top && isPerm(x.Perm) && x.Frame < 1<<36 && (!x.Huge || x.Frame%512 == 0)
}

// wordOf is the word that maps the page, as a sum.
func wordOf(x api.Mapping) uint64 {
	w := 5 + 4096*x.Frame
	if x.Perm == 3 || x.Perm == 7 {
		w += 2
	}
	if x.Huge {
		w += 128
	}
	if x.Perm < 4 {
		w += 1 << 63
	}
	return w
}

// room says of each frame of a pool whether it is taken.
type room []bool

func (r room) alloc() (uint64, bool) {
	f := slices.Index(r, false)
	if f < 0 {
		return 0, false
	}
	r[f] = true
	return uint64(f), true
}

func (r room) left() int {
	n := 0
	for _, taken := range r {
		if !taken {
			n++
		}
	}
	return n
}

// model is a tree without words: its pages, in no order, and the frames of the tables that these need.
type model struct {
	room
	tables map[spot]uint64
	pages  []api.Mapping
}

// add is P8.2.
func (m *model) add(x api.Mapping) api.Errno {
	if !sound(x) {
		return api.ErrArg
	}
	for _, y := range m.pages {
		if contains(x, y.Va) || contains(y, x.Va) {
			return api.ErrMapped
		}
	}
	var made []spot
	for level := 3; level >= levelOf(x); level-- {
		s := spotOf(x.Va, level)
		if _, ok := m.tables[s]; ok {
			continue
		}
		f, ok := m.alloc()
		if !ok {
			m.remove(made)
			return api.ErrNoMem
		}
		m.tables[s] = f
		made = append(made, s)
	}
	m.pages = append(m.pages, x)
	return api.OK
}

// remove frees the tables' frames.
func (m *model) remove(list []spot) {
	for _, s := range list {
		m.room[m.tables[s]] = false
		delete(m.tables, s)
	}
}

// at is the place of the page that contains va, -1 if there is none.
func (m *model) at(va uint64) int {
	return slices.IndexFunc(m.pages, func(x api.Mapping) bool { return contains(x, va) })
}

// cut is P8.3.
func (m *model) cut(va uint64) (api.Mapping, api.Errno) {
	i := m.at(va)
	switch {
	case va >= top:
		return api.Mapping{}, api.ErrArg
	case i < 0:
		return api.Mapping{}, api.ErrUnmapped
	}
	x := m.pages[i]
	m.pages = slices.Delete(m.pages, i, i+1)
	for level := levelOf(x); level < 4; level++ {
		s := spotOf(va, level)
		if !slices.ContainsFunc(m.pages, func(y api.Mapping) bool { return levelOf(y) <= level && spotOf(y.Va, level) == s }) {
			m.remove([]spot{s})
		}
	}
	return x, api.OK
}

// protect is P8.4.
func (m *model) protect(va uint64, perm int) api.Errno {
	i := m.at(va)
	switch {
	case va >= top || !isPerm(perm):
		return api.ErrArg
	case i < 0:
		return api.ErrUnmapped
	}
	m.pages[i].Perm = perm
	return api.OK
}

// walk is P8.5.
func (m *model) walk(va uint64, want int) (uint64, api.Errno) {
	i := m.at(va)
	switch {
	case va >= top || want < 0 || want > 7:
		return 0, api.ErrArg
	case i < 0:
		return 0, api.ErrFault
	}
	x := m.pages[i]
	for _, bit := range []int{1, 2, 4} {
		if want/bit%2 == 1 && x.Perm/bit%2 == 0 {
			return 0, api.ErrPerm
		}
	}
	return x.Frame*4096 + (va - x.Va), api.OK
}

// sorted are the model's pages in the order that P8.6 tells.
func (m *model) sorted() []api.Mapping {
	return slices.SortedFunc(slices.Values(m.pages), func(x, y api.Mapping) int { return cmp.Compare(x.Va, y.Va) })
}

// words are those of all tables, by their frames.
func (m *model) words() map[uint64][512]uint64 {
	out := map[uint64][512]uint64{}
	lay := func(va uint64, level int, w uint64) {
		f := m.tables[spotOf(va, level)]
		x := out[f]
		x[va/span(level)%512] = w
		out[f] = x
	}
	for s, f := range m.tables {
		if _, ok := out[f]; !ok {
			out[f] = [512]uint64{}
		}
		if s.level < 4 {
			lay(s.number*span(s.level+1), s.level+1, f*4096+7)
		}
	}
	for _, x := range m.pages {
		lay(x.Va, levelOf(x), wordOf(x))
	}
	return out
}

// held is a tree beside its model: each call is made on both.
type held struct {
	t *testing.T
	p *frame.Pool
	x *radix.Tree
	m *model
}

// pool has n frames, of which so many of the lowest are taken.
func pool(t *testing.T, n, taken int) (*frame.Pool, room) {
	t.Helper()
	p, e := frame.New(n)
	if e != api.OK {
		t.Fatal(e)
	}
	r := make(room, n)
	for range taken {
		r.alloc()
		p.Alloc(1)
	}
	return p, r
}

// tree is a new one on a pool that others may use too.
func tree(t *testing.T, p *frame.Pool, r room) *held {
	t.Helper()
	x, e := radix.New(p)
	f, ok := r.alloc()
	if x == nil || e != api.OK || !ok {
		t.Fatalf("New of a pool of %d frames = %v, %d", len(r), x, e)
	}
	return &held{t, p, x, &model{room: r, tables: map[spot]uint64{{4, 0}: f}}}
}

// hold is a new tree on a pool of its own.
func hold(t *testing.T, n int) *held {
	t.Helper()
	p, r := pool(t, n, 0)
	return tree(t, p, r)
}

// mapped demands the model's answer, and gives it back; so do the next three.
func (h *held) mapped(x api.Mapping) api.Errno {
	h.t.Helper()
	want := h.m.add(x)
	if e := h.x.Map(x); e != want {
		h.t.Fatalf("Map(%+v) = %d; want %d", x, e, want)
	}
	return want
}

func (h *held) unmapped(va uint64) api.Errno {
	h.t.Helper()
	want, wantE := h.m.cut(va)
	if got, e := h.x.Unmap(va); got != want || e != wantE {
		h.t.Fatalf("Unmap(%#x) = %+v, %d; want %+v, %d", va, got, e, want, wantE)
	}
	return wantE
}

func (h *held) protected(va uint64, perm int) api.Errno {
	h.t.Helper()
	want := h.m.protect(va, perm)
	if e := h.x.Protect(va, perm); e != want {
		h.t.Fatalf("Protect(%#x, %d) = %d; want %d", va, perm, e, want)
	}
	return want
}

func (h *held) walked(va uint64, want int) api.Errno {
	h.t.Helper()
	at, fault := h.m.walk(va, want)
	if got, e := h.x.Walk(va, want); got != at || e != fault {
		h.t.Fatalf("Walk(%#x, %d) = %#x, %d; want %#x, %d", va, want, got, e, at, fault)
	}
	return fault
}

// must demands that a call is answered so.
func (h *held) must(got, want api.Errno) {
	h.t.Helper()
	if got != want {
		h.t.Fatalf("the answer is %d; want %d", got, want)
	}
}

// fill maps the pages, all of which find room.
func (h *held) fill(list ...api.Mapping) *held {
	h.t.Helper()
	for _, x := range list {
		h.must(h.mapped(x), api.OK)
	}
	return h
}

// use takes single frames of the pool for something else, till so many are left.
func (h *held) use(left int) *held {
	h.t.Helper()
	for h.m.left() > left {
		f, _ := h.m.alloc()
		if g, e := h.p.Alloc(1); g != f || e != api.OK {
			h.t.Fatalf("Alloc(1) = %d, %d; want %d", g, e, f)
		}
	}
	return h
}

// release frees a frame that was taken for something else.
func (h *held) release(f uint64) {
	h.t.Helper()
	h.m.room[f] = false
	if e := h.p.Free(f, 1); e != api.OK {
		h.t.Fatalf("Free(%d, 1) = %d", f, e)
	}
}

// check holds all that can be seen of the tree and its pool against the model, and P8.7.
func (h *held) check() {
	h.t.Helper()
	if got, want := h.x.Root(), h.m.tables[spot{4, 0}]; got != want {
		h.t.Fatalf("Root() = %d; want %d", got, want)
	}
	if got, want := h.x.Pages(), h.m.sorted(); !slices.Equal(got, want) {
		h.t.Fatalf("Pages() = %+v; want %+v", got, want)
	}
	if got, want := h.x.Tables(), slices.Sorted(maps.Values(h.m.tables)); !slices.Equal(got, want) {
		h.t.Fatalf("Tables() = %d; want %d", got, want)
	}
	for f, taken := range h.m.room {
		if h.p.Taken(uint64(f)) != taken {
			h.t.Fatalf("of %d frames: Taken(%d) = %v; want %v", len(h.m.room), f, !taken, taken)
		}
	}
	if h.p.Left() != h.m.left() {
		h.t.Fatalf("%d frames are left; want %d", h.p.Left(), h.m.left())
	}
	got := h.words()
	h.others(got)
	for f, want := range h.m.words() {
		if got[f] != want {
			h.t.Fatalf("the words of the table in frame %d are %x; want %x", f, got[f], want)
		}
	}
	h.follow(got)
}

// words asks for every word of every table.
func (h *held) words() map[uint64][512]uint64 {
	h.t.Helper()
	out := map[uint64][512]uint64{}
	for _, f := range h.x.Tables() {
		var words [512]uint64
		for i := range words {
			w, ok := h.x.Word(f, i)
			if !ok {
				h.t.Fatalf("Word(%d, %d) is false", f, i)
			}
			words[i] = w
		}
		out[f] = words
	}
	return out
}

// others demands that there are no words beside those of the tables.
func (h *held) others(tables map[uint64][512]uint64) {
	h.t.Helper()
	none := func(f uint64, list ...int) {
		h.t.Helper()
		for _, i := range list {
			if w, ok := h.x.Word(f, i); w != 0 || ok {
				h.t.Fatalf("Word(%d, %d) = %#x, %v; want 0, false", f, i, w, ok)
			}
		}
	}
	list := []uint64{1 << 16, 1 << 32, 1 << 63, greatest}
	for f := range uint64(len(h.m.room) + 1) {
		list = append(list, f)
	}
	for _, f := range list {
		none(f, -1, -512, 512, 513, 1024, 1<<32, 1<<32+1, math.MinInt64, math.MaxInt64)
		if _, ok := tables[f]; !ok {
			none(f, 0, 1, 255, 511)
		}
	}
}

// follow holds P8.7: going by the words from the root, bit by bit, comes to exactly the pages, and to each table once, whose frame is taken.
func (h *held) follow(tables map[uint64][512]uint64) {
	h.t.Helper()
	var pages []api.Mapping
	seen := map[uint64]bool{}
	var down func(f uint64, level int, from uint64)
	down = func(f uint64, level int, from uint64) {
		words, ok := tables[f]
		if !ok || seen[f] || !h.p.Taken(f) {
			h.t.Fatalf("frame %d: a table is in it %v, comes again %v, is taken %v", f, ok, seen[f], h.p.Taken(f))
		}
		seen[f] = true
		empty := true
		for i, w := range words {
			va, number := from+uint64(i)*span(level), w>>12&(1<<36-1)
			switch {
			case w == 0:
				continue
			case level == 1 || w>>7&1 == 1:
				perm := 1 + int(w&2) + 4*int(1-w>>63)
				pages = append(pages, api.Mapping{Va: va, Frame: number, Perm: perm, Huge: level == 2})
			default:
				down(number, level-1, va)
			}
			empty = false
		}
		if empty && level < 4 {
			h.t.Fatalf("the table of level %d in frame %d is empty", level, f)
		}
	}
	down(h.x.Root(), 4, 0)
	if want := h.m.sorted(); !slices.Equal(pages, want) {
		h.t.Fatalf("the words come to %+v; want %+v", pages, want)
	}
	if len(seen) != len(tables) {
		h.t.Fatalf("the words come to %d of %d tables", len(seen), len(tables))
	}
}

// page is a small one that may be read and written.
func page(va, frame uint64) api.Mapping {
	return api.Mapping{Va: va, Frame: frame, Perm: 3}
}

// wide is a huge one that may be read and executed.
func wide(va, frame uint64) api.Mapping {
	return api.Mapping{Va: va, Frame: frame, Perm: 5, Huge: true}
}

// place is the address with these indexes from level 4 on.
func place(four, three, two, one uint64) uint64 {
	return four<<39 + three<<30 + two<<21 + one<<12
}

// inside are addresses of the page: the first, some in the middle, the last.
func inside(x api.Mapping) []uint64 {
	size := span(levelOf(x))
	return []uint64{x.Va, x.Va + 1, x.Va + size/2 - 1, x.Va + size/2, x.Va + size - 2, x.Va + size - 1}
}

// beside are the numbers before and behind the page; those of pages at the ends are no addresses.
func beside(x api.Mapping) []uint64 {
	size := span(levelOf(x))
	return []uint64{x.Va - 1, x.Va - size, x.Va + size, x.Va + size + 1, x.Va + 2*size}
}

// orders calls visit with the pages in every order.
func orders(list []api.Mapping, visit func([]api.Mapping)) {
	var lay func(n int)
	lay = func(n int) {
		if n == len(list) {
			visit(slices.Clone(list))
			return
		}
		for i := n; i < len(list); i++ {
			list[n], list[i] = list[i], list[n]
			lay(n + 1)
			list[n], list[i] = list[i], list[n]
		}
	}
	lay(0)
}

// TestExamples are the chapter's, one row after the other.
func TestExamples(t *testing.T) {
	p, _ := pool(t, 8, 0)
	x, e := radix.New(p)
	if e != api.OK || x.Root() != 0 {
		t.Fatal(e, x.Root())
	}
	is := func(got, want api.Errno) {
		t.Helper()
		if got != want {
			t.Errorf("the answer is %d; want %d", got, want)
		}
	}
	tables := func(want ...uint64) {
		t.Helper()
		if got := x.Tables(); !slices.Equal(got, want) {
			t.Errorf("Tables() = %d; want %d", got, want)
		}
	}
	walk := func(va uint64, want int, at uint64, fault api.Errno) {
		t.Helper()
		if got, e := x.Walk(va, want); got != at || e != fault {
			t.Errorf("Walk(%d, %d) = %d, %d; want %d, %d", va, want, got, e, at, fault)
		}
	}
	m := api.Mapping{Va: 4096, Frame: 9, Perm: 3}
	is(x.Map(m), api.OK)
	tables(0, 1, 2, 3)
	walk(4100, 1, 36868, api.OK)
	is(x.Map(m), api.ErrMapped)
	is(x.Map(api.Mapping{Perm: 3, Huge: true}), api.ErrMapped)
	walk(0, 1, 0, api.ErrFault)
	walk(4096, 4, 0, api.ErrPerm)
	if w, ok := x.Word(3, 1); w != 0x8000000000009007 || !ok {
		t.Errorf("Word(3, 1) = %#x, %v", w, ok)
	}
	if y, e := x.Unmap(5000); y != m || e != api.OK {
		t.Errorf("Unmap(5000) = %+v, %d", y, e)
	}
	tables(0)
	if y, e := x.Unmap(5000); y != (api.Mapping{}) || e != api.ErrUnmapped {
		t.Errorf("Unmap(5000) again = %+v, %d", y, e)
	}
	is(x.Map(api.Mapping{Va: 1, Frame: 9, Perm: 3}), api.ErrArg)
}

// TestNew holds P8.1: on small pools, and on pools whose lowest frames are taken.
func TestNew(t *testing.T) {
	for _, n := range []int{1, 2, 3, 4, 8, 600} {
		for _, taken := range []int{0, 1, n / 2, n - 1} {
			if taken >= n {
				continue
			}
			p, r := pool(t, n, taken)
			h := tree(t, p, r)
			if h.x.Root() != uint64(taken) || h.p.Left() != n-taken-1 {
				t.Errorf("of %d frames, %d of them taken: the root is in frame %d, %d are left", n, taken, h.x.Root(), h.p.Left())
			}
			h.check()
		}
		p, _ := pool(t, n, n)
		if x, e := radix.New(p); x != nil || e != api.ErrNoMem || p.Left() != 0 {
			t.Errorf("New of a pool without a free frame = %v, %d", x, e)
		}
	}
	p, r := pool(t, 5, 5)
	p.Free(2, 1)
	r[2] = false
	h := tree(t, p, r)
	if h.x.Root() != 2 {
		t.Errorf("only frame 2 is free: the root is in frame %d", h.x.Root())
	}
	h.check()
}

// TestNilPool holds that a pool that no call has returned is answered ErrNil.
func TestNilPool(t *testing.T) {
	for name, p := range map[string]*frame.Pool{"nil": nil, "empty": new(frame.Pool)} {
		if x, e := radix.New(p); x != nil || e != api.ErrNil {
			t.Errorf("New of a pool that is %s = %v, %d; want nil, ErrNil", name, x, e)
		}
	}
}

// silent demands that a tree answers every call as a nil one does, whatever else is wrong.
func silent(t *testing.T, x *radix.Tree) {
	t.Helper()
	for _, va := range addresses {
		for _, perm := range perms {
			for _, m := range []api.Mapping{{Va: va, Perm: perm}, {Va: va, Perm: perm, Frame: greatest}, {Va: va, Perm: perm, Huge: true}} {
				if e := x.Map(m); e != api.ErrNil {
					t.Errorf("Map(%+v) = %d; want ErrNil", m, e)
				}
			}
			if e := x.Protect(va, perm); e != api.ErrNil {
				t.Errorf("Protect(%#x, %d) = %d; want ErrNil", va, perm, e)
			}
			if at, e := x.Walk(va, perm); at != 0 || e != api.ErrNil {
				t.Errorf("Walk(%#x, %d) = %#x, %d; want 0, ErrNil", va, perm, at, e)
			}
		}
		if m, e := x.Unmap(va); m != (api.Mapping{}) || e != api.ErrNil {
			t.Errorf("Unmap(%#x) = %+v, %d; want ErrNil", va, m, e)
		}
	}
	for _, f := range frames {
		for _, i := range []int{-1, 0, 1, 511, 512} {
			if w, ok := x.Word(f, i); w != 0 || ok {
				t.Errorf("Word(%d, %d) = %#x, %v; want 0, false", f, i, w, ok)
			}
		}
	}
	if x.Root() != 0 || len(x.Pages()) != 0 || len(x.Tables()) != 0 || x.Drop() != api.ErrNil {
		t.Errorf("root %d, pages %v, tables %v, Drop %d; want 0, none, none, ErrNil", x.Root(), x.Pages(), x.Tables(), x.Drop())
	}
}

// TestNil holds R4 for trees that no call has returned, and P8.6 for those behind Drop, which keep silent for good and do nothing to the pool.
func TestNil(t *testing.T) {
	silent(t, nil)
	silent(t, new(radix.Tree))
	p, r := pool(t, 20, 3)
	old := tree(t, p, r).fill(page(4096, 9), wide(1<<30, 512))
	old.must(old.x.Drop(), api.OK)
	silent(t, old.x)
	if p.Left() != 17 {
		t.Errorf("%d frames are left; want 17", p.Left())
	}
	clear(r[3:])
	young := tree(t, p, r).fill(page(8192, 7))
	silent(t, old.x)
	young.check()
}

// TestMap holds P8.2 on a tree without pages for all addresses, permissions and frames; every page that is mapped is unmapped again.
func TestMap(t *testing.T) {
	h := hold(t, 8)
	count := 0
	for _, va := range addresses {
		for _, big := range []bool{false, true} {
			for _, perm := range perms {
				for _, frame := range frames {
					x := api.Mapping{Va: va, Frame: frame, Perm: perm, Huge: big}
					if h.mapped(x) != api.OK {
						if got := h.x.Tables(); !slices.Equal(got, []uint64{0}) || len(h.x.Pages()) != 0 || h.p.Left() != 7 {
							t.Fatalf("Map(%+v) is refused, but has left tables %d, pages %+v", x, got, h.x.Pages())
						}
						continue
					}
					count++
					if perm == 1 || frame == 512 {
						h.check()
					}
					h.walked(va, perm)
					h.must(h.unmapped(va), api.OK)
				}
			}
		}
	}
	h.check()
	if count < 500 {
		t.Errorf("only %d pages were mapped", count)
	}
}

// TestFaultyPages holds P8.2 for pages with one thing wrong each, on a tree where the sound page is mapped already: ErrArg is told ahead of ErrMapped, also where no frame is left.
func TestFaultyPages(t *testing.T) {
	for _, left := range []int{3, 0} {
		h := hold(t, 8).fill(page(4096, 9), wide(huge, 512)).use(left)
		for _, x := range []api.Mapping{
			{Va: 4097, Frame: 9, Perm: 3}, {Va: 4096 + 2048, Frame: 9, Perm: 3}, {Va: top, Frame: 9, Perm: 3}, {Va: top + 4096, Frame: 9, Perm: 3},
			{Va: 1<<63 + 4096, Frame: 9, Perm: 3}, {Va: 4096, Frame: 1 << 36, Perm: 3}, {Va: 4096, Frame: greatest, Perm: 3},
			{Va: 4096, Frame: 9}, {Va: 4096, Frame: 9, Perm: 2}, {Va: 4096, Frame: 9, Perm: 6}, {Va: 4096, Frame: 9, Perm: 9}, {Va: 4096, Frame: 9, Perm: -1},
			{Va: 4096, Frame: 9, Perm: 1<<32 + 1}, {Va: 4096, Frame: 512, Perm: 3, Huge: true}, {Va: huge + 4096, Frame: 512, Perm: 3, Huge: true},
			{Va: huge, Frame: 511, Perm: 3, Huge: true}, {Va: huge, Frame: 513, Perm: 3, Huge: true}, {Va: huge, Frame: 1 << 36, Perm: 3, Huge: true},
			{Va: huge, Frame: 512, Perm: 4, Huge: true}, {Va: huge, Frame: 512, Perm: 8 + 3, Huge: true}, {Va: top, Frame: 512, Perm: 3, Huge: true},
			{Va: 1 << 63, Frame: 512, Perm: 3, Huge: true}, {Va: greatest - huge + 1, Frame: 512, Perm: 3, Huge: true},
		} {
			h.must(h.mapped(x), api.ErrArg)
			h.check()
		}
	}
}

// TestTablesOfAPage holds P8.2 and P8.6 by words that are written out.
func TestTablesOfAPage(t *testing.T) {
	for _, c := range []struct {
		x     api.Mapping
		words []uint64 // of the tables in frames 0, 1, ..
		at    []int
	}{
		{page(4096, 9), []uint64{0x1007, 0x2007, 0x3007, 0x8000000000009007}, []int{0, 0, 0, 1}},
		{page(place(3, 5, 7, 9), 1), []uint64{0x1007, 0x2007, 0x3007, 0x8000000000001007}, []int{3, 5, 7, 9}},
		{page(top-4096, 1<<36-1), []uint64{0x1007, 0x2007, 0x3007, 0x8000FFFFFFFFF007}, []int{255, 511, 511, 511}},
		{api.Mapping{Perm: 7}, []uint64{0x1007, 0x2007, 0x3007, 0x7}, []int{0, 0, 0, 0}},
		{wide(0, 0), []uint64{0x1007, 0x2007, 0x85}, []int{0, 0, 0}},
		{wide(top-huge, 1<<36-512), []uint64{0x1007, 0x2007, 0xFFFFFFE00085}, []int{255, 511, 511}},
		{wide(place(1, 2, 3, 0), 512), []uint64{0x1007, 0x2007, 0x200085}, []int{1, 2, 3}},
	} {
		h := hold(t, 5).fill(c.x)
		if got := h.x.Tables(); len(got) != len(c.words) {
			t.Errorf("%+v: Tables() = %d", c.x, got)
		}
		for f, want := range c.words {
			for i := range 512 {
				w, ok := h.x.Word(uint64(f), i)
				if i == c.at[f] && w != want || i != c.at[f] && w != 0 || !ok {
					t.Errorf("%+v: Word(%d, %d) = %#x, %v; want %#x at %d", c.x, f, i, w, ok, want, c.at[f])
				}
			}
		}
		h.check()
	}
}

// TestOverlap holds P8.2: a small page in a huge one, a huge page over a small one, the same page again, with other frames and permissions too.
func TestOverlap(t *testing.T) {
	for _, base := range []uint64{0, huge, 1 << 30, 1<<39 + huge, top - huge} {
		h := hold(t, 12).fill(wide(base, 1024))
		for _, at := range []uint64{0, 4096, huge / 2, huge - 8192, huge - 4096} {
			h.must(h.mapped(page(base+at, 9)), api.ErrMapped)
			h.must(h.mapped(api.Mapping{Va: base + at, Perm: 7}), api.ErrMapped)
		}
		h.must(h.mapped(wide(base, 1024)), api.ErrMapped)
		h.must(h.mapped(wide(base, 0)), api.ErrMapped)
		h.check()
		for _, at := range []uint64{0, 4096, huge / 2, huge - 8192, huge - 4096} {
			h := hold(t, 12).fill(page(base+at, 9))
			h.must(h.mapped(wide(base, 1024)), api.ErrMapped)
			h.must(h.mapped(page(base+at, 9)), api.ErrMapped)
			h.must(h.mapped(api.Mapping{Va: base + at, Perm: 7}), api.ErrMapped)
			h.check()
		}
	}
}

// TestBeside holds that pages that touch don't overlap: small and huge ones, across the ends of tables of each level.
func TestBeside(t *testing.T) {
	for _, edge := range []uint64{4096, huge / 2, huge, 1 << 30, 1 << 39, 1 << 46} {
		h := hold(t, 20).fill(page(edge-4096, 1), page(edge, 2))
		h.check()
		h.unmapped(edge - 1)
		h.check()
		h.unmapped(edge)
		h.check()
		if edge%huge != 0 {
			continue
		}
		for _, list := range [][]api.Mapping{
			{wide(edge-huge, 512), wide(edge, 1024)}, {page(edge-4096, 1), wide(edge, 512)}, {wide(edge-huge, 512), page(edge, 1)},
			{wide(edge, 512), page(edge-4096, 1)}, {page(edge, 1), wide(edge-huge, 512)}, {page(edge+huge, 3), page(edge-4096, 1), wide(edge, 512)},
		} {
			h := hold(t, 20).fill(list...)
			h.check()
			for _, x := range list {
				h.must(h.unmapped(x.Va), api.OK)
				h.check()
			}
		}
	}
}

// TestSharedTables holds how many tables pages have together, and that a huge page may stand where small ones were.
func TestSharedTables(t *testing.T) {
	h := hold(t, 20)
	for _, c := range []struct {
		x      api.Mapping
		tables int
	}{
		{page(place(1, 1, 1, 1), 1), 4}, {page(place(1, 1, 1, 511), 2), 4}, {page(place(1, 1, 2, 1), 3), 5}, {page(place(1, 2, 1, 1), 4), 7},
		{page(place(2, 1, 1, 1), 5), 10}, {wide(place(1, 1, 3, 0), 512), 10}, {wide(place(2, 2, 0, 0), 1024), 11}, {wide(place(3, 0, 0, 0), 0), 13},
	} {
		h.fill(c.x)
		if got := len(h.x.Tables()); got != c.tables {
			t.Errorf("with %+v there are %d tables; want %d", c.x, got, c.tables)
		}
		h.check()
	}
	h.must(h.unmapped(place(1, 1, 2, 1)), api.OK)
	h.must(h.mapped(wide(place(1, 1, 2, 0), 512)), api.OK)
	h.check()
	h.must(h.unmapped(place(1, 1, 2, 9)), api.OK)
	h.must(h.mapped(page(place(1, 1, 2, 9), 3)), api.OK)
	h.check()
}

// TestNoMem holds P8.2 where the pool has too few frames for the tables that are missing: the error leaves everything as it was, and with as many frames as are missing the page is mapped.
func TestNoMem(t *testing.T) {
	base := page(place(1, 1, 1, 1), 9)
	for _, c := range []struct {
		x       api.Mapping
		missing int
	}{
		{page(place(1, 1, 1, 2), 4), 0}, {page(place(1, 1, 2, 1), 4), 1}, {page(place(1, 2, 1, 1), 4), 2}, {page(place(2, 1, 1, 1), 4), 3}, {page(0, 4), 3},
		{wide(place(1, 1, 2, 0), 512), 0}, {wide(place(1, 2, 1, 0), 512), 1}, {wide(place(2, 1, 1, 0), 512), 2},
	} {
		for left := range 5 {
			h := hold(t, 12).fill(base).use(left)
			h.check()
			first, again := api.OK, api.ErrMapped
			if left < c.missing {
				first, again = api.ErrNoMem, api.ErrNoMem
			}
			h.must(h.mapped(c.x), first)
			h.check()
			h.must(h.mapped(c.x), again)
			h.check()
			h.walked(c.x.Va, 1)
			if left < c.missing {
				for f := range c.missing - left {
					h.release(uint64(11 - left - f)) // the last frames that were taken for something else
				}
				h.fill(c.x).check()
			}
		}
	}
}

// TestSmallPools holds P8.1 and P8.2 on pools that have hardly room for one page.
func TestSmallPools(t *testing.T) {
	for n := 1; n <= 8; n++ {
		h := hold(t, n)
		small, big := api.ErrNoMem, api.ErrNoMem
		if n >= 4 {
			small = api.OK
		}
		if n >= 3 {
			big = api.OK
		}
		h.must(h.mapped(page(4096, 9)), small)
		h.check()
		h.unmapped(4096)
		h.check()
		h.must(h.mapped(wide(1<<39, 512)), big)
		h.check()
		h.unmapped(1<<39 + 1)
		h.check()
	}
}

// TestErrorsInOrder holds that ErrMapped is told ahead of ErrNoMem, and ErrArg ahead of both, of ErrUnmapped, of ErrFault and of ErrPerm, and ErrFault ahead of ErrPerm.
func TestErrorsInOrder(t *testing.T) {
	h := hold(t, 12).fill(page(4096, 9), wide(1<<30, 512)).use(0)
	for _, x := range []api.Mapping{page(4096, 9), wide(0, 0), page(1<<30, 1), page(1<<30+4096, 1), page(1<<30+huge-4096, 1), wide(1<<30, 0)} {
		h.must(h.mapped(x), api.ErrMapped)
		x.Perm = 8
		h.must(h.mapped(x), api.ErrArg)
		h.check()
	}
	h.must(h.mapped(page(huge, 1)), api.ErrNoMem)
	h.must(h.mapped(api.Mapping{Va: huge, Perm: 2}), api.ErrArg)
	h.must(h.mapped(api.Mapping{Va: huge + 1, Perm: 1}), api.ErrArg)
	h.must(h.protected(8192, 2), api.ErrArg)
	h.must(h.protected(8192, 3), api.ErrUnmapped)
	h.must(h.walked(8192, 8), api.ErrArg)
	h.must(h.walked(8192, 4), api.ErrFault)
	h.must(h.walked(4096, 4), api.ErrPerm)
	h.must(h.walked(4096, 12), api.ErrArg)
	h.must(h.walked(top, 4), api.ErrArg)
	h.must(h.unmapped(top), api.ErrArg)
	h.must(h.unmapped(8192), api.ErrUnmapped)
	h.check()
}

// TestOrderOfFrames holds that missing tables are given their frames from the root down, each the lowest that is free.
func TestOrderOfFrames(t *testing.T) {
	h := hold(t, 16).use(0)
	for _, f := range []uint64{11, 3, 7, 14} {
		h.release(f)
	}
	h.fill(page(place(1, 2, 3, 4), 9))
	if got := h.x.Tables(); !slices.Equal(got, []uint64{0, 3, 7, 11}) {
		t.Errorf("Tables() = %d", got)
	}
	for _, c := range []struct {
		f    uint64
		i    int
		want uint64
	}{{0, 1, 3<<12 + 7}, {3, 2, 7<<12 + 7}, {7, 3, 11<<12 + 7}} {
		if w, ok := h.x.Word(c.f, c.i); w != c.want || !ok {
			t.Errorf("Word(%d, %d) = %#x, %v; want %#x", c.f, c.i, w, ok, c.want)
		}
	}
	h.check()
	h.fill(page(place(1, 2, 4, 4), 9)).check()
	h.unmapped(place(1, 2, 3, 4))
	h.check()
	h.fill(page(place(1, 2, 5, 4), 9)).check()
}

// edges are pages at both ends of the addresses, and at the ends of tables.
func edges() []api.Mapping {
	return []api.Mapping{
		page(0, 9), page(4096, 0), page(huge-4096, 511), page(1<<39, 1<<36-1), page(top-4096, 7), wide(0, 0), wide(huge, 512), wide(1<<30-huge, 1<<36-512), wide(top-huge, 1024),
	}
}

// TestUnmap holds P8.3 at every address that matters of small and huge pages, and beside them.
func TestUnmap(t *testing.T) {
	for _, x := range edges() {
		for _, va := range inside(x) {
			h := hold(t, 8).fill(x)
			h.must(h.unmapped(va), api.OK)
			h.check()
			h.must(h.unmapped(va), api.ErrUnmapped)
			h.check()
			h.fill(x).check()
		}
		h := hold(t, 8).fill(x)
		for _, va := range slices.Concat(beside(x), []uint64{top - 1, top, top + x.Va, 1<<63 + x.Va, greatest}) {
			if contains(x, va) {
				continue
			}
			if e := h.unmapped(va); e != api.ErrArg && e != api.ErrUnmapped {
				t.Errorf("Unmap(%#x) beside %+v = %d", va, x, e)
			}
			h.check()
		}
	}
	h := hold(t, 8)
	for _, va := range addresses {
		if e := h.unmapped(va); e != api.ErrArg && e != api.ErrUnmapped {
			t.Errorf("Unmap(%#x) of nothing = %d", va, e)
		}
	}
	h.check()
}

// TestPrune holds P8.3: in whatever order pages go, just the tables go that become empty.
func TestPrune(t *testing.T) {
	list := []api.Mapping{page(place(1, 1, 1, 1), 1), page(place(1, 1, 1, 2), 2), wide(place(1, 1, 2, 0), 512), page(place(1, 2, 1, 1), 3), wide(place(2, 1, 1, 0), 1024)}
	orders(slices.Clone(list), func(order []api.Mapping) {
		h := hold(t, 20).fill(list...)
		for _, x := range order {
			h.must(h.unmapped(x.Va), api.OK)
			h.check()
		}
		if got := h.x.Tables(); !slices.Equal(got, []uint64{0}) {
			t.Fatalf("without pages there are tables in %d", got)
		}
	})
}

// TestPruneStops holds how many tables go where one of them has another word.
func TestPruneStops(t *testing.T) {
	gone := page(place(1, 1, 1, 1), 1)
	for _, c := range []struct {
		stays  api.Mapping
		tables []uint64
	}{
		{page(place(1, 1, 1, 0), 2), []uint64{0, 1, 2, 3}}, {page(place(1, 1, 1, 511), 2), []uint64{0, 1, 2, 3}}, {wide(place(1, 1, 0, 0), 512), []uint64{0, 1, 2}},
		{wide(place(1, 1, 511, 0), 512), []uint64{0, 1, 2}}, {wide(place(1, 0, 1, 0), 512), []uint64{0, 1, 4}}, {wide(place(0, 1, 1, 0), 512), []uint64{0, 4, 5}},
	} {
		h := hold(t, 12).fill(gone, c.stays)
		h.must(h.unmapped(gone.Va), api.OK)
		if got := h.x.Tables(); !slices.Equal(got, c.tables) {
			t.Errorf("with %+v alone, Tables() = %d; want %d", c.stays, got, c.tables)
		}
		h.check()
	}
}

// TestProtect holds P8.4: every perm at every address that matters; neither tables nor frames change.
func TestProtect(t *testing.T) {
	for _, x := range edges() {
		for _, before := range []int{1, 3, 5, 7} {
			x.Perm = before
			h := hold(t, 8).fill(x)
			tables := h.x.Tables()
			for i, perm := range perms {
				va := inside(x)[i%6]
				want := api.ErrArg
				if isPerm(perm) {
					want = api.OK
				}
				h.must(h.protected(va, perm), want)
				h.check()
				if got := h.x.Tables(); !slices.Equal(got, tables) {
					t.Errorf("Protect has made tables %d of %d", got, tables)
				}
			}
			for _, va := range slices.Concat(beside(x), addresses) {
				for _, perm := range []int{1, 7, 6} {
					if !contains(x, va) {
						h.protected(va, perm)
					}
				}
			}
			h.check()
		}
	}
}

// TestProtectOne holds that other pages stay as they are.
func TestProtectOne(t *testing.T) {
	list := []api.Mapping{page(0, 1), page(4096, 1), page(8192, 1), wide(huge, 512), wide(2*huge, 512), page(3*huge, 1)}
	for _, x := range list {
		h := hold(t, 12).fill(list...)
		for _, perm := range []int{1, 7, 5, 3} {
			h.must(h.protected(x.Va+5, perm), api.OK)
			h.check()
		}
	}
}

// TestWalk holds P8.5: every want, of pages of every perm, at every address that matters.
func TestWalk(t *testing.T) {
	for _, x := range edges() {
		for _, perm := range []int{1, 3, 5, 7} {
			x.Perm = perm
			h := hold(t, 8).fill(x)
			for _, want := range wants {
				for _, va := range slices.Concat(inside(x), beside(x), addresses) {
					h.walked(va, want)
				}
			}
			for want := -1; want <= 8; want++ {
				fault := api.OK
				if want < 0 || want > 7 {
					fault = api.ErrArg
				} else if want|perm != perm {
					fault = api.ErrPerm
				}
				for _, va := range inside(x) {
					h.must(h.walked(va, want), fault)
				}
			}
			h.check()
		}
	}
}

// TestWalkOut holds P8.5 by numbers that are written out: at the ends of pages, and where a table of some level is missing.
func TestWalkOut(t *testing.T) {
	h := hold(t, 20).fill(page(place(1, 1, 1, 1), 9), wide(place(1, 1, 2, 0), 1<<36-512), page(top-4096, 1<<36-1), api.Mapping{Perm: 7})
	for _, c := range []struct{ va, at uint64 }{
		{place(1, 1, 1, 1), 36864}, {place(1, 1, 1, 1) + 4095, 40959}, {place(1, 1, 2, 0), 0xFFFFFFE00000}, {place(1, 1, 2, 511) + 4095, 0xFFFFFFFFFFFF},
		{place(1, 1, 2, 256), 0xFFFFFFF00000}, {top - 1, 0xFFFFFFFFFFFF}, {top - 4096, 0xFFFFFFFFF000}, {0, 0}, {4095, 4095},
	} {
		if at, e := h.x.Walk(c.va, 1); at != c.at || e != api.OK {
			t.Errorf("Walk(%#x, 1) = %#x, %d; want %#x", c.va, at, e, c.at)
		}
	}
	for _, va := range []uint64{place(1, 1, 1, 0), place(1, 1, 1, 2), place(1, 1, 0, 1), place(1, 1, 3, 1), place(1, 0, 1, 1), place(1, 2, 1, 1), place(2, 1, 1, 1), place(254, 0, 0, 0), 4096, top - 4097} {
		for want := range 8 {
			h.must(h.walked(va, want), api.ErrFault)
		}
	}
	h.check()
}

// TestPages holds P8.6: the order of small and huge pages, in whatever order they were mapped.
func TestPages(t *testing.T) {
	want := []api.Mapping{page(4096, 3), wide(huge, 512), page(1<<30-4096, 2), wide(1<<39, 0), page(top-4096, 1)}
	orders(slices.Clone(want), func(order []api.Mapping) {
		h := hold(t, 20).fill(order...)
		if got := h.x.Pages(); !slices.Equal(got, want) {
			t.Fatalf("Pages() = %+v; want %+v", got, want)
		}
		h.check()
	})
}

// TestFullTable holds a table all of whose words map pages, beside a huge page.
func TestFullTable(t *testing.T) {
	h := hold(t, 8).fill(wide(huge, 512))
	for i := range uint64(512) {
		h.fill(page((i*77%512)<<12, i))
	}
	h.check()
	for i := range uint64(512) {
		h.must(h.unmapped((i*5%512)<<12+i), api.OK)
	}
	h.check()
	if got := h.x.Tables(); !slices.Equal(got, []uint64{0, 1, 2}) {
		t.Errorf("Tables() = %d", got)
	}
}

// TestNewMemory holds R3: what Pages and Tables give may be written to, with its spare room, and is given anew each time.
func TestNewMemory(t *testing.T) {
	h := hold(t, 30).fill(edges()[2:5]...).fill(wide(1<<40, 512), page(1<<41, 5))
	pages, tables := h.x.Pages(), h.x.Tables()
	again, more := h.x.Pages(), h.x.Tables()
	keepPages, keepTables := slices.Clone(again), slices.Clone(more)
	for i := range pages[:cap(pages)] {
		pages[:cap(pages)][i] = api.Mapping{Va: 1, Frame: 2, Perm: 4, Huge: true}
	}
	for i := range tables[:cap(tables)] {
		tables[:cap(tables)][i] = 77
	}
	if !slices.Equal(again, keepPages) || !slices.Equal(more, keepTables) {
		t.Error("two answers share memory")
	}
	h.check()
	h.unmapped(1 << 41)
	if !slices.Equal(again, keepPages) || !slices.Equal(more, keepTables) {
		t.Error("a later call has changed an answer")
	}
	h.check()
}

// TestRefusedCalls holds R2: calls that are answered an error change nothing, however often they are made.
func TestRefusedCalls(t *testing.T) {
	h := hold(t, 10).fill(page(4096, 9), wide(huge, 512), page(1<<39, 1)).use(1)
	for _, va := range addresses {
		for _, big := range []bool{false, true} {
			for _, perm := range []int{-1, 0, 3, 8} {
				x := api.Mapping{Va: va, Frame: 512, Perm: perm, Huge: big}
				if h.mapped(x) == api.OK {
					h.must(h.unmapped(va), api.OK)
				}
			}
		}
		for _, perm := range []int{-1, 0, 2, 8, 1 << 40} {
			h.must(h.protected(va, perm), api.ErrArg)
		}
		for _, want := range []int{-1, 8, 1 << 40} {
			h.must(h.walked(va, want), api.ErrArg)
		}
		if h.m.at(va) < 0 {
			h.unmapped(va)
			h.protected(va, 1)
			h.walked(va, 1)
		}
		h.check()
	}
}

// TestTwoTrees holds that trees on one pool share nothing but the pool.
func TestTwoTrees(t *testing.T) {
	p, r := pool(t, 24, 0)
	a, b := tree(t, p, r), tree(t, p, r)
	both := func() {
		t.Helper()
		a.check()
		b.check()
	}
	a.fill(page(4096, 9))
	both()
	b.fill(page(4096, 7), wide(1<<30, 512))
	both()
	a.must(a.mapped(wide(1<<30, 0)), api.OK)
	both()
	a.must(a.protected(4096, 7), api.OK)
	both()
	b.must(b.unmapped(4096), api.OK)
	both()
	b.must(b.walked(4096, 1), api.ErrFault)
	a.must(a.walked(4096, 4), api.OK)
	b.fill(page(1<<39, 1), page(0, 2))
	both()
	for _, f := range a.m.tables {
		r[f] = false
	}
	a.must(a.x.Drop(), api.OK)
	b.check()
	silent(t, a.x)
	c := tree(t, p, r).fill(page(0, 1))
	b.check()
	c.check()
}

// TestDrop holds P8.6: the frames of all tables are free again, and no others; not those that pages are in either.
func TestDrop(t *testing.T) {
	for _, list := range [][]api.Mapping{nil, {page(4096, 2)}, {wide(0, 0)}, edges()[2:5], {page(0, 1), page(1<<30, 2), wide(1<<39, 0), page(top-4096, 20)}} {
		p, r := pool(t, 24, 3)
		h := tree(t, p, r).fill(list...).use(4)
		for _, f := range h.m.tables {
			r[f] = false
		}
		h.must(h.x.Drop(), api.OK)
		for f, taken := range r {
			if p.Taken(uint64(f)) != taken {
				t.Errorf("behind Drop of %+v, Taken(%d) = %v", list, f, !taken)
			}
		}
		if p.Left() != r.left() {
			t.Errorf("behind Drop, %d frames are left; want %d", p.Left(), r.left())
		}
		silent(t, h.x)
	}
}

// TestFreedTables holds P8.7 where someone frees a table's frame: it is given to no other table, and is taken again by the next call that needs frames, if that succeeds.
func TestFreedTables(t *testing.T) {
	for f := range uint64(4) {
		h := hold(t, 12).fill(page(4096, 9))
		h.p.Free(f, 1)
		h.fill(page(1<<39, 1))
		h.check()
		h.unmapped(4096)
		h.check()
	}
	h := hold(t, 6).fill(page(4096, 9))
	h.p.Free(2, 1)
	h.must(h.mapped(page(1<<39, 1)), api.ErrNoMem)
	if h.p.Taken(2) || h.p.Left() != 3 {
		t.Errorf("the error has left frame 2 taken %v, %d frames free", h.p.Taken(2), h.p.Left())
	}
	h.must(h.walked(4096, 1), api.OK)
	h.must(h.unmapped(4096), api.OK)
	h.check()
	h.p.Free(0, 1)
	h.must(h.x.Drop(), api.OK)
	if h.p.Left() != 6 {
		t.Errorf("behind Drop, %d frames are left; want 6", h.p.Left())
	}
}

// pick is one of the list.
func pick[T any](r *rand.Rand, list []T) T {
	return list[r.Intn(len(list))]
}

// somewhere is an address near others: only few indexes are used, so that pages meet and share tables.
func somewhere(r *rand.Rand) uint64 {
	if r.Intn(40) == 0 {
		return pick(r, addresses)
	}
	va := place(pick(r, []uint64{0, 1, 255}), pick(r, []uint64{0, 1, 511}), pick(r, []uint64{0, 1, 511}), pick(r, []uint64{0, 0, 1, 511}))
	return va + pick(r, []uint64{0, 0, 0, 0, 1, 4095})
}

// mix makes one call, sometimes a wrong one, or takes or frees frames of the pool for something else; own are those.
func (h *held) mix(r *rand.Rand, own *[]uint64) {
	h.t.Helper()
	va := somewhere(r)
	switch r.Intn(16) {
	case 0, 1, 2, 3:
		h.mapped(api.Mapping{Va: va &^ 4095, Frame: uint64(r.Intn(1 << 20)), Perm: pick(r, []int{1, 3, 5, 7})})
	case 4, 5:
		h.mapped(api.Mapping{Va: va &^ (huge - 1), Frame: uint64(r.Intn(1<<20) * 512), Perm: pick(r, []int{1, 3, 5, 7}), Huge: true})
	case 6:
		h.mapped(api.Mapping{Va: va, Frame: pick(r, frames), Perm: pick(r, perms), Huge: r.Intn(2) == 0})
	case 7, 8:
		h.protected(va, pick(r, []int{1, 3, 5, 7, 7, 5, 3, 1, 0, 8}))
	case 9:
		h.walked(va, r.Intn(10)-1)
	case 10:
		if f, ok := h.m.alloc(); ok {
			h.p.Alloc(1)
			*own = append(*own, f)
		}
	case 11:
		if n := len(*own); n > 0 {
			i := r.Intn(n)
			h.release((*own)[i])
			*own = slices.Delete(*own, i, i+1)
		}
	case 12:
		h.unmapped(va)
	default:
		if len(h.m.pages) > 0 {
			h.unmapped(pick(r, inside(pick(r, h.m.pages))))
		}
	}
}

// TestRandom holds all promises for long runs of calls against the model: everything that can be seen is compared after every call.
func TestRandom(t *testing.T) {
	for seed := range 12 {
		r := rand.New(rand.NewSource(int64(seed)))
		p, taken := pool(t, 6+r.Intn(16), r.Intn(3))
		h := tree(t, p, taken)
		var own []uint64
		for range 250 {
			h.mix(r, &own)
			h.check()
		}
	}
}

// TestRandomLong is the same for longer runs on two trees of one pool, with fewer comparisons; in the end all frames are free again.
func TestRandomLong(t *testing.T) {
	for seed := range 8 {
		r := rand.New(rand.NewSource(int64(100 + seed)))
		p, taken := pool(t, 20+r.Intn(60), 0)
		a, b := tree(t, p, taken), tree(t, p, taken)
		var own []uint64
		for i := range 3000 {
			pick(r, []*held{a, b}).mix(r, &own)
			if i%100 == 0 {
				a.check()
				b.check()
			}
		}
		for _, f := range own {
			a.release(f)
		}
		for len(a.m.pages) > 0 {
			a.unmapped(a.m.pages[0].Va)
		}
		a.check()
		b.check()
		a.must(a.x.Drop(), api.OK)
		b.must(b.x.Drop(), api.OK)
		if p.Left() != len(taken) {
			t.Errorf("in the end %d of %d frames are free", p.Left(), len(taken))
		}
	}
}

// TestRandomWalk holds P8.5 and P8.7 for pages that are spread over all addresses: each address is found just if a page contains it.
func TestRandomWalk(t *testing.T) {
	r := rand.New(rand.NewSource(87))
	h := hold(t, 400)
	for range 150 {
		x := api.Mapping{Va: r.Uint64() % top, Frame: r.Uint64() % (1 << 36), Perm: pick(r, []int{1, 3, 5, 7}), Huge: r.Intn(2) == 0}
		x.Va -= x.Va % span(levelOf(x))
		if x.Huge {
			x.Frame -= x.Frame % 512
		}
		h.mapped(x)
	}
	h.check()
	if len(h.m.pages) < 100 {
		t.Errorf("only %d pages were mapped", len(h.m.pages))
	}
	for _, x := range h.m.pages {
		for _, va := range slices.Concat(inside(x), beside(x), []uint64{x.Va ^ 1<<uint(12+r.Intn(35)), x.Va + r.Uint64()%span(levelOf(x))}) {
			h.walked(va, r.Intn(8))
		}
	}
}
