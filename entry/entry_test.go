package entry_test

import (
	"math"
	"math/rand"
	"slices"
	"testing"

	"hayward/api"
	"hayward/entry"
)

// The signatures are part of the chapter.
var (
	_ func(x api.Entry, level int) (uint64, api.Errno)       = entry.Encode
	_ func(w uint64, level int) (api.Entry, bool, api.Errno) = entry.Decode
	_ func(va uint64, level int) (int, api.Errno)            = entry.Index
)

const (
	greatest = uint64(math.MaxUint64)
	top      = uint64(1) << 47
)

var (
	sound = []int{1, 2, 3, 4}
	// wrong are numbers that no level has; cut to 8 or 32 bits, some would be one.
	wrong = []int{
		math.MinInt64, math.MinInt64 + 1, math.MinInt64 + 2, -1 << 32, -1<<32 + 1, -255, -4, -3, -2, -1, 0, 5, 6, 7, 8,
		63, 64, 257, 258, 1<<32 + 1, 1<<32 + 2, 1<<32 + 4, 1 << 62, 1<<62 + 2, 1<<63 - 9, math.MaxInt64 - 1, math.MaxInt64,
	}
	levels = slices.Concat(sound, wrong)
	// frames are numbers around which something changes.
	frames = []uint64{
		0, 1, 2, 5, 255, 256, 511, 512, 513, 768, 1023, 1024, 1025, 1 << 20, 1<<35 - 512, 1 << 35, 1<<35 + 1, 1<<35 + 512,
		1<<36 - 1024, 1<<36 - 513, 1<<36 - 512, 1<<36 - 511, 1<<36 - 1, 1 << 36, 1<<36 + 1, 1<<36 + 512, 1 << 37, 1 << 47,
		1 << 51, 1 << 52, 1<<52 + 1, 1 << 55, 1 << 63, 1<<63 + 512, greatest - 511, greatest - 1, greatest,
	}
	// perms are the sums of the permissions, what exceeds them, and numbers with a bit far above.
	perms = []int{
		0, 1, 2, 3, 4, 5, 6, 7, 8, 9, 10, 11, 12, 13, 14, 15, 16, 17, 23, 64 + 7, 128 + 3, 256 + 1, 1 << 16, 1<<31 + 7,
		1 << 32, 1<<32 + 1, 1<<32 + 3, 1<<32 + 7, 1 << 62, 1<<62 + 7, math.MaxInt64, math.MaxInt64 - 6, math.MaxInt64 - 7,
		-1, -2, -7, -8, -5, math.MinInt64, math.MinInt64 + 1, math.MinInt64 + 3, math.MinInt64 + 7,
	}
	// edges are addresses around which an index changes, and numbers that are no address.
	edges = []uint64{
		0, 1, 4095, 4096, 4097, 1 << 12, 1<<13 - 1, 1 << 13, 1<<20 + 4096, 1<<21 - 1, 1 << 21, 1<<21 + 1, 1<<29 + 5, 1<<30 - 1, 1 << 30, 1<<30 + 1,
		1<<38 - 1, 1<<39 - 1, 1 << 39, 1<<39 + 4096, 1<<40 - 1, 1 << 41, 1 << 46, 1<<46 - 1, 1<<47 - 4096, 1<<47 - 1, 1 << 47, 1<<47 + 1,
		1<<48 - 1, 1 << 48, 1<<48 + 4096, 1<<62 + 1, 1<<63 - 1, 1 << 63, 1<<63 + 1<<39, greatest - 4095, greatest - 1, greatest,
	}
)

// isLevel is the chapter's word of a level, by listing.
func isLevel(level int) bool {
	return slices.Contains(sound, level)
}

// isPagePerm says whether a page may have these permissions, by listing.
func isPagePerm(perm int) bool {
	return perm == 1 || perm == 3 || perm == 5 || perm == 7
}

// valid is the chapter's word, case by case.
func valid(x api.Entry, level int) bool {
	switch {
	case !isLevel(level) || x.Frame >= 1<<36:
		return false
	case x.Table:
		return level >= 2 && !x.Huge && x.Perm == 7
	case x.Huge:
		return level == 2 && x.Frame%512 == 0 && isPagePerm(x.Perm)
	}
	return level == 1 && isPagePerm(x.Perm)
}

// wordOf is the chapter's word of a valid entry, as a sum.
func wordOf(x api.Entry) uint64 {
	w := 1 + 4 + 4096*x.Frame
	if x.Perm/2%2 == 1 {
		w += 2
	}
	if x.Huge {
		w += 128
	}
	if x.Perm/4 == 0 {
		w += 1 << 63
	}
	return w
}

// all calls visit with every entry of the frames and permissions, valid or not.
func all(visit func(x api.Entry)) {
	for _, table := range []bool{false, true} {
		for _, huge := range []bool{false, true} {
			for _, perm := range perms {
				for _, frame := range frames {
					visit(api.Entry{Table: table, Huge: huge, Perm: perm, Frame: frame})
				}
			}
		}
	}
}

// owners are the valid entries of the level that have the word w, found by trying those with the frame that stands in w.
func owners(w uint64, level int) []api.Entry {
	var out []api.Entry
	for i := range 32 {
		x := api.Entry{Table: i/16 == 1, Huge: i/8%2 == 1, Perm: i % 8, Frame: w / 4096 % (1 << 36)}
		if valid(x, level) && wordOf(x) == w {
			out = append(out, x)
		}
	}
	return out
}

// encodes holds P7.1 for one entry and level.
func encodes(t *testing.T, x api.Entry, level int) {
	t.Helper()
	want, fault := uint64(0), api.ErrArg
	if valid(x, level) {
		want, fault = wordOf(x), api.OK
	}
	if got, e := entry.Encode(x, level); got != want || e != fault {
		t.Errorf("Encode(%+v, %d) = %#x, %d; want %#x, %d", x, level, got, e, want, fault)
	}
}

// decodes holds P7.2 for one word and level, and R2: beside false everything else is zero. It says whether the word is an entry's.
func decodes(t *testing.T, w uint64, level int) bool {
	t.Helper()
	var want api.Entry
	ok, fault := false, api.ErrForm
	found := owners(w, level)
	switch {
	case len(found) > 1:
		t.Fatalf("the word %#x belongs at level %d to %+v", w, level, found)
	case !isLevel(level):
		fault = api.ErrArg
	case w == 0:
		fault = api.OK
	case len(found) == 1:
		want, ok, fault = found[0], true, api.OK
	}
	if got, is, e := entry.Decode(w, level); got != want || is != ok || e != fault {
		t.Errorf("Decode(%#x, %d) = %+v, %v, %d; want %+v, %v, %d", w, level, got, is, e, want, ok, fault)
	}
	return ok
}

// refused holds that the word is no entry's at the level, whatever the model says.
func refused(t *testing.T, w uint64, level int, fault api.Errno) {
	t.Helper()
	if x, ok, e := entry.Decode(w, level); x != (api.Entry{}) || ok || e != fault {
		t.Errorf("Decode(%#x, %d) = %+v, %v, %d; want the zero entry, false, %d", w, level, x, ok, e, fault)
	}
}

// indexes holds P7.3 for one address and level.
func indexes(t *testing.T, va uint64, level int) {
	t.Helper()
	want, fault := 0, api.ErrArg
	if isLevel(level) && va < top {
		size := uint64(4096) // of what a word of the level describes
		for range level - 1 {
			size *= 512
		}
		want, fault = int(va/size%512), api.OK
	}
	if got, e := entry.Index(va, level); got != want || e != fault {
		t.Errorf("Index(%#x, %d) = %d, %d; want %d, %d", va, level, got, e, want, fault)
	}
}

// words calls visit with the word of every valid entry of all, and its level.
func words(visit func(x api.Entry, w uint64, level int)) {
	all(func(x api.Entry) {
		for _, level := range sound {
			if valid(x, level) {
				visit(x, wordOf(x), level)
			}
		}
	})
}

// TestExamples holds the chapter's examples of entries, and some more that are written out.
func TestExamples(t *testing.T) {
	for _, c := range []struct {
		x     api.Entry
		level int
		w     uint64
	}{
		{api.Entry{Perm: 1, Frame: 5}, 1, 0x8000000000005005},
		{api.Entry{Perm: 3, Frame: 5}, 1, 0x8000000000005007},
		{api.Entry{Perm: 5, Frame: 5}, 1, 0x5005},
		{api.Entry{Perm: 7, Frame: 5}, 1, 0x5007},
		{api.Entry{Perm: 1, Frame: 0}, 1, 0x8000000000000005},
		{api.Entry{Perm: 5, Frame: 0}, 1, 0x5},
		{api.Entry{Perm: 3, Frame: 9}, 1, 0x8000000000009007},
		{api.Entry{Perm: 7, Frame: 1<<36 - 1}, 1, 0xFFFFFFFFF007},
		{api.Entry{Table: true, Perm: 7, Frame: 1}, 2, 0x1007},
		{api.Entry{Table: true, Perm: 7, Frame: 1}, 3, 0x1007},
		{api.Entry{Table: true, Perm: 7, Frame: 1}, 4, 0x1007},
		{api.Entry{Table: true, Perm: 7, Frame: 0}, 4, 0x7},
		{api.Entry{Table: true, Perm: 7, Frame: 513}, 2, 0x201007},
		{api.Entry{Table: true, Perm: 7, Frame: 1<<36 - 1}, 3, 0xFFFFFFFFF007},
		{api.Entry{Huge: true, Perm: 3, Frame: 512}, 2, 0x8000000000200087},
		{api.Entry{Huge: true, Perm: 1, Frame: 0}, 2, 0x8000000000000085},
		{api.Entry{Huge: true, Perm: 5, Frame: 1024}, 2, 0x400085},
		{api.Entry{Huge: true, Perm: 7, Frame: 1<<36 - 512}, 2, 0xFFFFFFE00087},
	} {
		if w, e := entry.Encode(c.x, c.level); w != c.w || e != api.OK {
			t.Errorf("Encode(%+v, %d) = %#x, %d; want %#x", c.x, c.level, w, e, c.w)
		}
		if x, ok, e := entry.Decode(c.w, c.level); x != c.x || !ok || e != api.OK {
			t.Errorf("Decode(%#x, %d) = %+v, %v, %d; want %+v", c.w, c.level, x, ok, e, c.x)
		}
	}
	refused(t, 0, 1, api.OK)
	refused(t, 1, 1, api.ErrForm)
}

// TestIndexExamples holds the chapter's examples of indexes, and the edges of addresses written out.
func TestIndexExamples(t *testing.T) {
	for _, c := range []struct {
		va   uint64
		want [4]int // of levels 1 to 4
	}{
		{0, [4]int{0, 0, 0, 0}},
		{4095, [4]int{0, 0, 0, 0}},
		{4096, [4]int{1, 0, 0, 0}},
		{1<<21 - 1, [4]int{511, 0, 0, 0}},
		{1 << 21, [4]int{0, 1, 0, 0}},
		{1<<30 - 1, [4]int{511, 511, 0, 0}},
		{1 << 30, [4]int{0, 0, 1, 0}},
		{1<<39 - 1, [4]int{511, 511, 511, 0}},
		{1 << 39, [4]int{0, 0, 0, 1}},
		{1<<39 + 4096, [4]int{1, 0, 0, 1}},
		{1<<47 - 1, [4]int{511, 511, 511, 255}},
		{3<<12 + 5<<21 + 7<<30 + 9<<39 + 11, [4]int{3, 5, 7, 9}},
	} {
		for i, want := range c.want {
			if got, e := entry.Index(c.va, i+1); got != want || e != api.OK {
				t.Errorf("Index(%#x, %d) = %d, %d; want %d", c.va, i+1, got, e, want)
			}
		}
	}
	for _, va := range []uint64{1 << 47, 1 << 48, 1 << 63, greatest} {
		for _, level := range levels {
			if got, e := entry.Index(va, level); got != 0 || e != api.ErrArg {
				t.Errorf("Index(%#x, %d) = %d, %d; want ErrArg", va, level, got, e)
			}
		}
	}
}

// TestWrongLevels holds that a level that is none is told ahead of all else, for every function.
func TestWrongLevels(t *testing.T) {
	for _, level := range wrong {
		words(func(x api.Entry, w uint64, _ int) {
			if got, e := entry.Encode(x, level); got != 0 || e != api.ErrArg {
				t.Errorf("Encode(%+v, %d) = %#x, %d; want ErrArg", x, level, got, e)
			}
			refused(t, w, level, api.ErrArg)
		})
		for _, w := range []uint64{0, 1, 2, 4, 5, 7, 0x80, 0x85, 1 << 63, greatest} {
			refused(t, w, level, api.ErrArg)
		}
		for _, va := range edges {
			if got, e := entry.Index(va, level); got != 0 || e != api.ErrArg {
				t.Errorf("Index(%#x, %d) = %d, %d; want ErrArg", va, level, got, e)
			}
		}
	}
}

// TestEncode holds P7.1 for all entries, at all levels.
func TestEncode(t *testing.T) {
	all(func(x api.Entry) {
		for _, level := range levels {
			encodes(t, x, level)
		}
	})
}

// TestInvalid holds P7.1 for entries with one thing wrong each.
func TestInvalid(t *testing.T) {
	for _, c := range []struct {
		x     api.Entry
		level int
	}{
		{api.Entry{}, 1}, {api.Entry{}, 2}, {api.Entry{}, 3}, {api.Entry{}, 4},
		{api.Entry{Perm: 7, Frame: 5}, 2}, {api.Entry{Perm: 7, Frame: 5}, 3}, {api.Entry{Perm: 7, Frame: 512}, 4},
		{api.Entry{Perm: 0, Frame: 5}, 1}, {api.Entry{Perm: 2, Frame: 5}, 1}, {api.Entry{Perm: 6, Frame: 5}, 1},
		{api.Entry{Perm: 9, Frame: 5}, 1}, {api.Entry{Perm: 1 << 32, Frame: 5}, 1}, {api.Entry{Perm: 1<<32 + 1, Frame: 5}, 1},
		{api.Entry{Perm: -1, Frame: 5}, 1}, {api.Entry{Perm: -7, Frame: 5}, 1}, {api.Entry{Perm: math.MaxInt64, Frame: 5}, 1},
		{api.Entry{Perm: 1, Frame: 1 << 36}, 1}, {api.Entry{Perm: 1, Frame: greatest}, 1},
		{api.Entry{Table: true, Perm: 7, Frame: 5}, 1}, {api.Entry{Table: true, Huge: true, Perm: 7, Frame: 512}, 2},
		{api.Entry{Table: true, Perm: 3, Frame: 5}, 2}, {api.Entry{Table: true, Perm: 5, Frame: 5}, 3}, {api.Entry{Table: true, Perm: 15, Frame: 5}, 4},
		{api.Entry{Table: true, Perm: 0, Frame: 5}, 4}, {api.Entry{Table: true, Perm: 6, Frame: 5}, 4}, {api.Entry{Table: true, Perm: 7, Frame: 1 << 36}, 4},
		{api.Entry{Huge: true, Perm: 3, Frame: 512}, 1}, {api.Entry{Huge: true, Perm: 3, Frame: 512}, 3}, {api.Entry{Huge: true, Perm: 3, Frame: 512}, 4},
		{api.Entry{Huge: true, Perm: 3, Frame: 1}, 2}, {api.Entry{Huge: true, Perm: 3, Frame: 511}, 2}, {api.Entry{Huge: true, Perm: 3, Frame: 768}, 2},
		{api.Entry{Huge: true, Perm: 2, Frame: 512}, 2}, {api.Entry{Huge: true, Perm: 11, Frame: 512}, 2}, {api.Entry{Huge: true, Perm: 3, Frame: 1 << 36}, 2},
	} {
		if w, e := entry.Encode(c.x, c.level); w != 0 || e != api.ErrArg {
			t.Errorf("Encode(%+v, %d) = %#x, %d; want ErrArg", c.x, c.level, w, e)
		}
	}
}

// TestDecode holds P7.2 for 0, for the words of all valid entries, at their levels and at the others, and for each of these words with one bit turned.
func TestDecode(t *testing.T) {
	for _, level := range levels {
		fault := api.OK
		if !isLevel(level) {
			fault = api.ErrArg
		}
		refused(t, 0, level, fault)
	}
	words(func(x api.Entry, w uint64, level int) {
		if got, ok, e := entry.Decode(w, level); got != x || !ok || e != api.OK {
			t.Errorf("Decode(%#x, %d) = %+v, %v, %d; want %+v", w, level, got, ok, e, x)
		}
		for _, other := range levels {
			decodes(t, w, other)
			for i := range 64 {
				decodes(t, w^1<<i, other)
			}
		}
	})
}

// TestFixedBits holds that no word is an entry's one of whose fixed bits is turned, alone or with others.
func TestFixedBits(t *testing.T) {
	fixed := []int{0, 2}
	for _, span := range [][2]int{{3, 6}, {8, 11}, {48, 62}} {
		for i := span[0]; i <= span[1]; i++ {
			fixed = append(fixed, i)
		}
	}
	words(func(_ api.Entry, w uint64, level int) {
		turned := w
		for _, i := range fixed {
			refused(t, w^1<<i, level, api.ErrForm)
			turned ^= 1 << i
		}
		refused(t, turned, level, api.ErrForm)
	})
	words(func(x api.Entry, w uint64, level int) {
		if x.Table { // its permissions are fixed too
			refused(t, w^2, level, api.ErrForm)
			refused(t, w^1<<63, level, api.ErrForm)
			refused(t, w^2^1<<63, level, api.ErrForm)
		}
	})
}

// TestHugeBit holds P7.2 for words with bit 7: they are entries' only at level 2, with a frame that is a multiple of 512.
func TestHugeBit(t *testing.T) {
	for _, frame := range frames {
		if frame >= 1<<36 {
			continue
		}
		for _, low := range []uint64{0x85, 0x87, 0x85 | 1<<63, 0x87 | 1<<63} {
			w := frame<<12 | low
			for _, level := range []int{1, 3, 4} {
				refused(t, w, level, api.ErrForm)
			}
			if is := decodes(t, w, 2); is != (frame%512 == 0) {
				t.Errorf("at level 2, %#x is an entry's word: %v", w, is)
			}
			if frame%512 != 0 {
				refused(t, w, 2, api.ErrForm)
			}
		}
	}
}

// TestOtherLevels holds that a word is read as its level asks: as a page at level 1, as a table from level 2 on, if it has a table's permissions.
func TestOtherLevels(t *testing.T) {
	for _, level := range []int{2, 3, 4} {
		for _, w := range []uint64{0x5005, 0x8000000000005005, 0x8000000000005007} {
			refused(t, w, level, api.ErrForm)
		}
		x, ok, e := entry.Decode(0x5007, level)
		if x != (api.Entry{Table: true, Perm: 7, Frame: 5}) || !ok || e != api.OK {
			t.Errorf("Decode(0x5007, %d) = %+v, %v, %d; want a table", level, x, ok, e)
		}
	}
	x, ok, e := entry.Decode(0x201007, 1)
	if x != (api.Entry{Perm: 7, Frame: 513}) || !ok || e != api.OK {
		t.Errorf("Decode(0x201007, 1) = %+v, %v, %d; want a page", x, ok, e)
	}
	refused(t, 0x8000000000200087, 1, api.ErrForm)
}

// TestWordsOfAllForms holds P7.2 for every pattern of the bits below a frame, with and without those above it, and for some words that are far from all forms.
func TestWordsOfAllForms(t *testing.T) {
	for low := range uint64(4096) {
		for _, frame := range []uint64{0, 1, 256, 512, 513, 1<<36 - 512, 1<<36 - 1} {
			for _, high := range []uint64{0, 1 << 63, 1 << 48, 1<<63 | 1<<62} {
				for _, level := range sound {
					decodes(t, low|frame<<12|high, level)
				}
			}
		}
	}
	for _, level := range sound {
		for _, w := range []uint64{1, 2, 3, 4, 1 << 63, 1<<63 - 1, greatest - 1, greatest} {
			refused(t, w, level, api.ErrForm)
		}
	}
}

// TestIndex holds P7.3 for addresses and numbers that are none, at all levels.
func TestIndex(t *testing.T) {
	for _, level := range levels {
		for _, va := range edges {
			indexes(t, va, level)
		}
		for i := range 64 {
			indexes(t, 1<<i, level)
			indexes(t, 1<<i-1, level)
			indexes(t, -(1 << i), level)
		}
	}
	r := rand.New(rand.NewSource(73))
	for range 20000 {
		va := r.Uint64() >> r.Intn(64)
		for _, level := range sound {
			indexes(t, va, level)
		}
	}
}

// some is a random entry, often valid at some level.
func some(r *rand.Rand) api.Entry {
	x := api.Entry{Perm: r.Intn(8), Frame: r.Uint64() >> (28 + r.Intn(36))}
	switch r.Intn(4) {
	case 0:
		x.Table, x.Perm = true, 7
	case 1:
		x.Huge = true
		x.Frame &^= 511
	case 2:
		x.Table, x.Huge = r.Intn(2) == 0, r.Intn(2) == 0
	}
	return x
}

// back holds P7.4 for one entry: if it is valid, it is decoded as it was, and with Perm or Frame changed it has another word. It says whether it is valid.
func back(t *testing.T, x api.Entry, level int) bool {
	t.Helper()
	encodes(t, x, level)
	w, e := entry.Encode(x, level)
	if e != api.OK {
		return false
	}
	if y, ok, e := entry.Decode(w, level); y != x || !ok || e != api.OK {
		t.Errorf("at level %d, %+v has the word %#x, which is decoded as %+v, %v, %d", level, x, w, y, ok, e)
	}
	for _, y := range []api.Entry{
		{Table: x.Table, Huge: x.Huge, Perm: x.Perm ^ 2, Frame: x.Frame},
		{Table: x.Table, Huge: x.Huge, Perm: x.Perm ^ 4, Frame: x.Frame},
		{Table: x.Table, Huge: x.Huge, Perm: x.Perm, Frame: x.Frame ^ 512},
		{Table: x.Table, Huge: x.Huge, Perm: x.Perm, Frame: x.Frame ^ 1},
		{Table: !x.Table, Huge: x.Huge, Perm: x.Perm, Frame: x.Frame},
		{Table: x.Table, Huge: !x.Huge, Perm: x.Perm, Frame: x.Frame},
		{Table: !x.Table, Huge: !x.Huge, Perm: x.Perm, Frame: x.Frame},
	} {
		if v, e := entry.Encode(y, level); e == api.OK && v == w {
			t.Errorf("at level %d, %+v and %+v have the word %#x", level, x, y, w)
		}
	}
	return true
}

// forth holds P7.4 for one word: if it is decoded as an entry, it is that entry's word. It says whether it is.
func forth(t *testing.T, w uint64, level int) bool {
	t.Helper()
	decodes(t, w, level)
	x, ok, _ := entry.Decode(w, level)
	if !ok {
		return false
	}
	if v, e := entry.Encode(x, level); v != w || e != api.OK {
		t.Errorf("at level %d, %#x is decoded as %+v, which has the word %#x, %d", level, w, x, v, e)
	}
	return true
}

// TestOneToOne holds P7.4: the edges' entries, random ones, their words, those with a bit or two turned, and random words.
func TestOneToOne(t *testing.T) {
	all(func(x api.Entry) {
		for _, level := range sound {
			back(t, x, level)
		}
	})
	r := rand.New(rand.NewSource(74))
	entries, kept, turned := 0, 0, 0
	for range 20000 {
		level := 1 + r.Intn(4)
		x := some(r)
		if back(t, x, level) {
			entries++
		}
		w := wordOf(x)
		if forth(t, w, level) {
			kept++
		}
		if forth(t, w^1<<r.Intn(64), level) {
			turned++
		}
		forth(t, w^1<<r.Intn(64)^1<<r.Intn(64), level)
		forth(t, r.Uint64(), level)
		forth(t, r.Uint64()&0x8000FFFFFFFFF087|5, level)
	}
	if entries < 1000 || kept < 1000 || turned < 1000 {
		t.Errorf("of 20000 random entries only %d were valid, of their words only %d, of those with a bit turned only %d", entries, kept, turned)
	}
}

// TestAddresses holds P7.4: the four indexes and the lowest 12 bits, put together, are the address.
func TestAddresses(t *testing.T) {
	r := rand.New(rand.NewSource(75))
	list := slices.Clone(edges)
	for range 20000 {
		list = append(list, r.Uint64()>>(17+r.Intn(47)))
	}
	for _, va := range list {
		if va >= top {
			continue
		}
		sum := va % 4096
		for _, level := range sound {
			i, e := entry.Index(va, level)
			if i < 0 || i > 511 || e != api.OK {
				t.Errorf("Index(%#x, %d) = %d, %d", va, level, i, e)
			}
			sum += uint64(i) << (12 + 9*(level-1))
		}
		if sum != va {
			t.Errorf("the indexes of %#x, put together, are %#x", va, sum)
		}
	}
}

// TestNothingIsKept holds R4: an answer hangs on the arguments alone, also behind a call that failed.
func TestNothingIsKept(t *testing.T) {
	for _, level := range levels {
		entry.Encode(api.Entry{Table: true, Huge: true, Perm: -1, Frame: greatest}, level)
		entry.Encode(api.Entry{Huge: true, Perm: 7, Frame: 1024}, level)
		entry.Decode(greatest, level)
		entry.Decode(0x1007, level)
		entry.Index(greatest, level)
		entry.Index(top-1, level)
		encodes(t, api.Entry{Perm: 1, Frame: 5}, 1)
		decodes(t, 0x8000000000005005, 1)
		decodes(t, 0x8000000000200087, 2)
		refused(t, 0, 4, api.OK)
		indexes(t, 1<<39+4096, 4)
	}
}
