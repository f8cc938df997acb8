package extent_test

import (
	"fmt"
	"maps"
	"math"
	"math/rand"
	"slices"
	"strings"
	"testing"

	"hayward/api"
	"hayward/extent"
)

// The signatures are part of the chapter.
var (
	_ func(l []api.Extent, size, from, n int64) (string, api.Errno)           = extent.Read
	_ func(l []api.Extent, from int64, data string) ([]api.Extent, api.Errno) = extent.Write
	_ func(l []api.Extent, size int64) ([]api.Extent, api.Errno)              = extent.Cut
	_ func(l []api.Extent) (int64, api.Errno)                                 = extent.Stored
)

const (
	full     = 1048576
	least    = math.MinInt64
	greatest = math.MaxInt64
)

// numbers are those at which something changes, for sizes, offsets and counts alike.
var numbers = []int64{least, least + 1, -full, -2, -1, 0, 1, 2, 3, full - 1, full, full + 1, greatest - full, greatest - 1, greatest}

func ext(from int64, data string) api.Extent {
	return api.Extent{From: from, Data: data}
}

func list(l ...api.Extent) []api.Extent {
	return l
}

// letters is so many bytes, each of which differs from those around it.
func letters(n int) string {
	return strings.Repeat("abcdefghijklmnopqrstuvwxyz012345", n/32+1)[:n]
}

// moved is l at other offsets.
func moved(l []api.Extent, by int64) []api.Extent {
	out := slices.Clone(l)
	for i := range out {
		out[i].From += by
	}
	return out
}

// end is the offset behind the last byte of an extent of a valid list.
func end(x api.Extent) int64 {
	return x.From + int64(len(x.Data))
}

// valid is the chapter's word.
func valid(l []api.Extent) bool {
	for i, x := range l {
		switch {
		case x.From < 0 || x.From > full || len(x.Data) == 0 || end(x) > full:
			return false
		case i > 0 && x.From <= end(l[i-1]):
			return false
		}
	}
	return true
}

// content is a model of a file: the bytes that are stored, by their offsets.
type content map[int64]byte

func (c content) write(from int64, data string) {
	for i := range len(data) {
		c[from+int64(i)] = data[i]
	}
}

// contentOf is the content of a list.
func contentOf(l []api.Extent) content {
	c := content{}
	for _, x := range l {
		c.write(x.From, x.Data)
	}
	return c
}

// list is the only valid one.
func (c content) list() []api.Extent {
	var out []api.Extent
	for _, at := range slices.Sorted(maps.Keys(c)) {
		b := string([]byte{c[at]})
		if last := len(out) - 1; last >= 0 && end(out[last]) == at {
			out[last].Data += b
		} else {
			out = append(out, ext(at, b))
		}
	}
	return out
}

// wasRead is P5.1, byte by byte.
func wasRead(l []api.Extent, size, from, n int64) (string, api.Errno) {
	if !valid(l) || size < 0 || from < 0 || n < 0 || size > full {
		return "", api.ErrArg
	}
	if len(l) > 0 && end(l[len(l)-1]) > size {
		return "", api.ErrArg
	}
	if from >= size {
		return "", api.OK
	}
	b := make([]byte, min(size-from, n))
	for _, x := range l {
		for i := range len(x.Data) {
			if at := x.From + int64(i) - from; at >= 0 && at < int64(len(b)) {
				b[at] = x.Data[i]
			}
		}
	}
	return string(b), api.OK
}

// wasWritten is P5.2, byte by byte.
func wasWritten(l []api.Extent, from int64, data string) ([]api.Extent, api.Errno) {
	if !valid(l) || from < 0 {
		return nil, api.ErrArg
	}
	if from > full || from+int64(len(data)) > full {
		return nil, api.ErrFBig
	}
	c := contentOf(l)
	c.write(from, data)
	return c.list(), api.OK
}

// wasCut is P5.3, byte by byte.
func wasCut(l []api.Extent, size int64) ([]api.Extent, api.Errno) {
	if !valid(l) || size < 0 {
		return nil, api.ErrArg
	}
	c := contentOf(l)
	maps.DeleteFunc(c, func(at int64, _ byte) bool { return at >= size })
	return c.list(), api.OK
}

// brief is the beginning of some bytes, for messages.
func brief(s string) string {
	return fmt.Sprintf("%q of %d bytes", s[:min(len(s), 40)], len(s))
}

// told is the beginning of a list, for messages.
func told(l []api.Extent) string {
	out := fmt.Sprintf("%d extents:", len(l))
	for _, x := range l[:min(len(l), 8)] {
		out += fmt.Sprintf(" %s at %d;", brief(x.Data), x.From)
	}
	return out
}

// The wants hold what was answered against what is wanted; beside an error, nothing is.
func wantRead(t *testing.T, l []api.Extent, size, from, n int64, want string, e api.Errno) {
	t.Helper()
	if got, ge := extent.Read(l, size, from, n); got != want || ge != e {
		t.Errorf("Read(%s, %d, %d, %d): %s, %d; want %s, %d", told(l), size, from, n, brief(got), ge, brief(want), e)
	}
}

func wantWrite(t *testing.T, l []api.Extent, from int64, data string, want []api.Extent, e api.Errno) {
	t.Helper()
	if got, ge := extent.Write(l, from, data); !slices.Equal(got, want) || ge != e {
		t.Errorf("Write(%s, %d, %s): %s, %d; want %s, %d", told(l), from, brief(data), told(got), ge, told(want), e)
	}
}

func wantCut(t *testing.T, l []api.Extent, size int64, want []api.Extent, e api.Errno) {
	t.Helper()
	if got, ge := extent.Cut(l, size); !slices.Equal(got, want) || ge != e {
		t.Errorf("Cut(%s, %d): %s, %d; want %s, %d", told(l), size, told(got), ge, told(want), e)
	}
}

func wantStored(t *testing.T, l []api.Extent, want int64, e api.Errno) {
	t.Helper()
	if got, ge := extent.Stored(l); got != want || ge != e {
		t.Errorf("Stored(%s): %d, %d; want %d, %d", told(l), got, ge, want, e)
	}
}

// The holds hold what is answered against the models.
func holdRead(t *testing.T, l []api.Extent, size, from, n int64) {
	t.Helper()
	want, e := wasRead(l, size, from, n)
	wantRead(t, l, size, from, n, want, e)
}

func holdWrite(t *testing.T, l []api.Extent, from int64, data string) {
	t.Helper()
	want, e := wasWritten(l, from, data)
	wantWrite(t, l, from, data, want, e)
}

func holdCut(t *testing.T, l []api.Extent, size int64) {
	t.Helper()
	want, e := wasCut(l, size)
	wantCut(t, l, size, want, e)
}

// written, cut, read and stored answer what must be no error.
func written(t *testing.T, l []api.Extent, from int64, data string) []api.Extent {
	t.Helper()
	out, e := extent.Write(l, from, data)
	if e != api.OK {
		t.Fatalf("Write(%s, %d, %s): %d", told(l), from, brief(data), e)
	}
	return out
}

func cut(t *testing.T, l []api.Extent, size int64) []api.Extent {
	t.Helper()
	out, e := extent.Cut(l, size)
	if e != api.OK {
		t.Fatalf("Cut(%s, %d): %d", told(l), size, e)
	}
	return out
}

func read(t *testing.T, l []api.Extent, size, from, n int64) string {
	t.Helper()
	out, e := extent.Read(l, size, from, n)
	if e != api.OK {
		t.Fatalf("Read(%s, %d, %d, %d): %d", told(l), size, from, n, e)
	}
	return out
}

func stored(t *testing.T, l []api.Extent) int64 {
	t.Helper()
	out, e := extent.Stored(l)
	if e != api.OK {
		t.Fatalf("Stored(%s): %d", told(l), e)
	}
	return out
}

// patterns calls visit with each list whose bytes lie at some of so many offsets from base on, bytes 00 and others that are no valid UTF-8 among them.
func patterns(width int, base int64, visit func(l []api.Extent)) {
	const bytes = "A\x00C\xffE\x00\xc3H"
	for mask := range 1 << width {
		c := content{}
		for i := range width {
			if mask>>i&1 == 1 {
				c[base+int64(i)] = bytes[i%len(bytes)]
			}
		}
		visit(c.list())
	}
}

// known are valid lists, those without an extent and those that end at MaxFile among them, with few bytes or many.
func known() [][]api.Extent {
	out := [][]api.Extent{
		nil,
		{},
		make([]api.Extent, 0, 4),
		list(ext(-1, ""), ext(5, "a"))[:0],
		list(ext(0, letters(full))),
		list(ext(1, letters(full-1))),
		list(ext(0, letters(full-1))),
		list(ext(0, letters(500000)), ext(500001, letters(full-500001))),
	}
	return append(out, small()...)
}

// small are valid lists of few bytes, some of which end at MaxFile.
func small() [][]api.Extent {
	three := list(ext(2, "ab"), ext(8, "c"), ext(14, "def"))
	out := [][]api.Extent{
		nil,
		list(ext(0, "a")),
		list(ext(3, "abcd"), ext(9, "x")),
		list(ext(0, "a"), ext(2, "b"), ext(4, "c")),
		list(ext(0, "\x00")),
		list(ext(1, "\x00\x00"), ext(4, "\x00")),
		list(ext(5, "\xff\xc3\x80"), ext(9, "\xed\xa0\x80é")),
		three,
		moved(three, full-17),
		list(ext(full-1, "a")),
		list(ext(full-2, "a")),
		list(ext(full-5, "abcde")),
		list(ext(0, "a"), ext(full-1, "b")),
		list(ext(0, "abc"), ext(500000, letters(20)), ext(full-3, "def")),
	}
	return out
}

// badExtents are none that a valid list has, at whatever place.
func badExtents() []api.Extent {
	return list(
		ext(-1, "a"), ext(-1, "ab"), ext(-3, letters(30)), ext(-full, "a"), ext(-1, letters(full+1)), ext(least, "a"), ext(least+1, "ab"), ext(least, letters(full)),
		ext(0, ""), ext(1, ""), ext(9, ""), ext(12, ""), ext(20, ""), ext(full-1, ""), ext(full, ""), ext(full+1, ""), ext(greatest, ""), ext(-1, ""), ext(least, ""),
		ext(full-1, "ab"), ext(full-3, "abcd"), ext(0, letters(full+1)), ext(1, letters(full)), ext(0, letters(3*full)),
		ext(full, "a"), ext(full, "ab"), ext(full+1, "a"), ext(full+1, "ab"), ext(greatest-1, "a"), ext(greatest-1, "ab"), ext(greatest, "a"), ext(greatest, "ab"), ext(greatest, letters(full)),
	)
}

// badPairs are two extents, each of which might stand alone: the second one touches, overlaps or precedes the first.
func badPairs() [][]api.Extent {
	var out [][]api.Extent
	for _, first := range list(ext(4, "ab"), ext(4, "a"), ext(3, "abcde")) {
		for from := int64(0); from <= end(first); from++ {
			for n := 1; n <= 10; n++ {
				out = append(out, list(first, ext(from, letters(n))))
			}
		}
	}
	return out
}

// invalid are lists that are not valid, in each way, at the first extent, at a middle one and at the last.
func invalid() [][]api.Extent {
	good := list(ext(2, "ab"), ext(8, "cd"), ext(14, "ef"))
	var out [][]api.Extent
	for _, x := range badExtents() {
		out = append(out, list(x), list(x, x))
		for i := range good {
			l := slices.Clone(good)
			l[i] = x
			out = append(out, l, l[:i+1])
		}
	}
	for _, pair := range badPairs() {
		high := moved(pair, 20)
		out = append(out, pair, append(moved(pair, 0), ext(30, "z")), append(slices.Clone(good), high...), append(append(slices.Clone(good), high...), ext(50, "z")))
	}
	top := list(ext(full-4, "ab"), ext(full-2, "cd"))
	return append(out, top, append(slices.Clone(good), top...), slices.Repeat(list(ext(0, "a")), 2*full))
}

// TestSamples: what the tests take for valid is, and what they take for invalid isn't.
func TestSamples(t *testing.T) {
	for _, l := range known() {
		if !valid(l) {
			t.Errorf("%s: not valid", told(l))
		}
	}
	for _, l := range invalid() {
		if valid(l) {
			t.Errorf("%s: valid", told(l))
		}
	}
	for _, pair := range badPairs() {
		if !valid(pair[:1]) || !valid(pair[1:]) {
			t.Errorf("%s: an extent that can't stand alone", told(pair))
		}
	}
	for _, base := range []int64{0, 1, full - 8} {
		n := 0
		patterns(8, base, func(l []api.Extent) {
			n++
			if !valid(l) {
				t.Errorf("%s: not valid", told(l))
			}
		})
		if n != 256 {
			t.Errorf("%d patterns", n)
		}
	}
}

// TestExamples: the chapter's, and that of the whole.
func TestExamples(t *testing.T) {
	one, two, three := list(ext(3, "abc")), list(ext(3, "abcd")), list(ext(3, "abcd"), ext(9, "x"))
	wantWrite(t, nil, 3, "abc", one, api.OK)
	wantWrite(t, one, 6, "d", two, api.OK)
	wantWrite(t, two, 9, "x", three, api.OK)
	wantRead(t, three, 10, 2, 20, "\x00abcd\x00\x00x", api.OK)
	wantCut(t, three, 5, list(ext(3, "ab")), api.OK)
	wantStored(t, three, 5, api.OK)
	wantWrite(t, nil, 1048576, "a", nil, api.ErrFBig)
	wantRead(t, list(ext(0, "a"), ext(1, "b")), 9, 0, 1, "", api.ErrArg)
	whole := list(ext(3, "abc"), ext(9, "x"))
	wantWrite(t, one, 9, "x", whole, api.OK)
	wantStored(t, whole, 4, api.OK)
	wantRead(t, whole, 10, 2, 20, "\x00abc\x00\x00\x00x", api.OK)
}

// TestInvalid: P5.1 to P5.3, a list that is not valid is refused, whatever stands beside it, also where what is asked doesn't concern the fault.
func TestInvalid(t *testing.T) {
	over, all := letters(full+1), letters(full)
	for _, l := range invalid() {
		for _, c := range [][3]int64{{full, 0, full}, {full, 0, 0}, {full, full, 1}, {10, 2, 20}, {60, 0, 1}, {0, 0, 0}, {-1, -1, -1}, {full + 1, 0, 1}, {greatest, greatest, greatest}} {
			wantRead(t, l, c[0], c[1], c[2], "", api.ErrArg)
		}
		for _, x := range list(ext(0, "a"), ext(0, ""), ext(4, "abcd"), ext(40, "abcd"), ext(full-1, "a"), ext(full, ""), ext(0, all), ext(-1, "a"), ext(-1, ""), ext(full, "a"), ext(full+1, ""), ext(0, over), ext(greatest, "a"), ext(least, "a")) {
			wantWrite(t, l, x.From, x.Data, nil, api.ErrArg)
		}
		for _, size := range []int64{0, 1, 5, 13, 30, full, full + 1, greatest, -1, least} {
			wantCut(t, l, size, nil, api.ErrArg)
		}
		wantStored(t, l, 0, api.ErrArg)
	}
}

// TestReadNumbers: P5.1, all of the numbers as size, from and n.
func TestReadNumbers(t *testing.T) {
	for _, l := range known() {
		for _, size := range numbers {
			for _, from := range numbers {
				for _, n := range numbers {
					holdRead(t, l, size, from, n)
				}
			}
		}
	}
	for _, n := range []int64{0, 1, full, full + 1, greatest} {
		wantRead(t, nil, 0, 0, n, "", api.OK)
		wantRead(t, nil, 0, n, n, "", api.OK)
		wantRead(t, nil, full, full, n, "", api.OK)
		wantRead(t, nil, 3, 1, n, "\x00\x00"[:min(n, 2)], api.OK)
		wantRead(t, nil, full, 0, n, strings.Repeat("\x00", int(min(n, full))), api.OK)
		wantRead(t, list(ext(0, letters(full))), full, 0, n, letters(int(min(n, full))), api.OK)
		wantRead(t, list(ext(full-1, "z")), full, full-1, n, "z"[:min(n, 1)], api.OK)
		wantRead(t, nil, full+1, 0, n, "", api.ErrArg)
		wantRead(t, nil, -1, 0, n, "", api.ErrArg)
		wantRead(t, nil, 5, -1, n, "", api.ErrArg)
	}
	wantRead(t, nil, 5, 0, -1, "", api.ErrArg)
	wantRead(t, nil, 5, 5, -1, "", api.ErrArg)
	wantRead(t, nil, 5, greatest, least, "", api.ErrArg)
}

// TestReadSize: P5.1, a size at the end of the last extent, ahead of it and behind it; a from at, ahead of and behind the size.
func TestReadSize(t *testing.T) {
	for _, l := range small() {
		last := int64(0)
		if len(l) > 0 {
			last = end(l[len(l)-1])
		}
		for size := last - 3; size <= last+3; size++ {
			for from := size - 6; from <= size+3; from++ {
				for _, n := range []int64{0, 1, 2, 3, 6, 7, full, greatest} {
					holdRead(t, l, size, from, n)
				}
			}
		}
	}
	l := list(ext(3, "abcd"), ext(9, "x"))
	wantRead(t, l, 9, 0, 1, "", api.ErrArg)
	wantRead(t, l, 9, 9, 0, "", api.ErrArg)
	wantRead(t, l, 4, 0, 1, "", api.ErrArg)
	wantRead(t, l, 0, 0, 0, "", api.ErrArg)
	wantRead(t, l, 10, 9, 5, "x", api.OK)
	wantRead(t, l, 11, 9, 5, "x\x00", api.OK)
	wantRead(t, l, 10, 10, 5, "", api.OK)
	wantRead(t, l, 10, 11, 5, "", api.OK)
}

// TestReadStretches: P5.1, all stretches of lists that have extents and holes at all of some offsets; then each of a chosen list's ends.
func TestReadStretches(t *testing.T) {
	for _, base := range []int64{0, 1, full - 6} {
		patterns(6, base, func(l []api.Extent) {
			for size := base - 1; size <= base+8; size++ {
				for from := base - 1; from <= base+8; from++ {
					for n := int64(0); n <= 8; n++ {
						holdRead(t, l, size, from, n)
					}
				}
			}
		})
	}
	l := list(ext(3, "abcd"), ext(9, "x"))
	for _, c := range []struct {
		from, n int64
		want    string
	}{
		{0, 3, "\x00\x00\x00"}, {0, 4, "\x00\x00\x00a"}, {2, 1, "\x00"}, {3, 1, "a"}, {3, 4, "abcd"}, {3, 5, "abcd\x00"}, {4, 2, "bc"}, {6, 1, "d"},
		{6, 2, "d\x00"}, {6, 4, "d\x00\x00x"}, {7, 1, "\x00"}, {7, 2, "\x00\x00"}, {7, 3, "\x00\x00x"}, {8, 2, "\x00x"}, {9, 1, "x"}, {9, 2, "x\x00"}, {10, 1, "\x00"},
	} {
		wantRead(t, l, 11, c.from, c.n, c.want, api.OK)
	}
}

// TestWriteNumbers: P5.2, all of the numbers as from, with no byte, one, and as many as a file may have or more.
func TestWriteNumbers(t *testing.T) {
	for _, l := range small() {
		for _, from := range numbers {
			for _, data := range []string{"", "z", "zyx", "\x00"} {
				holdWrite(t, l, from, data)
			}
		}
	}
	for _, l := range known() {
		for _, from := range []int64{-1, least, -full} {
			for _, data := range []string{"", "z", letters(full), letters(full + 1)} {
				wantWrite(t, l, from, data, nil, api.ErrArg)
			}
		}
		for _, from := range []int64{full + 1, greatest - full, greatest - 1, greatest} {
			for _, data := range []string{"", "z", letters(full), letters(full + 1)} {
				wantWrite(t, l, from, data, nil, api.ErrFBig)
			}
		}
		for _, from := range []int64{0, 1, 2, 500000, full - 1, full} {
			wantWrite(t, l, from, "", l, api.OK)
			wantWrite(t, l, from, letters(full + 1)[from:], nil, api.ErrFBig)
		}
		wantWrite(t, l, full, "z", nil, api.ErrFBig)
		wantWrite(t, l, full-1, "zy", nil, api.ErrFBig)
		wantWrite(t, l, 0, letters(full), list(ext(0, letters(full))), api.OK)
	}
}

// TestWriteEnds: P5.2, bytes that end at MaxFile or a byte behind it.
func TestWriteEnds(t *testing.T) {
	for _, n := range []int{1, 2, 3, 1000, full - 1, full} {
		data := letters(n)
		wantWrite(t, nil, int64(full-n), data, list(ext(int64(full-n), data)), api.OK)
		wantWrite(t, nil, int64(full-n)+1, data, nil, api.ErrFBig)
		wantWrite(t, nil, full, data, nil, api.ErrFBig)
		wantWrite(t, nil, greatest-int64(n), data, nil, api.ErrFBig)
		wantWrite(t, nil, greatest-int64(n)+1, data, nil, api.ErrFBig)
	}
	wantWrite(t, nil, 0, letters(full+1), nil, api.ErrFBig)
	wantWrite(t, nil, 0, letters(5*full), nil, api.ErrFBig)
	whole := letters(full)
	l := list(ext(0, whole))
	for _, from := range []int64{0, 1, 700000, full - 2} {
		wantWrite(t, l, from, "!?", list(ext(0, whole[:from]+"!?"+whole[from+2:])), api.OK)
	}
	wantWrite(t, list(ext(0, whole[:full-1])), full-1, "!", list(ext(0, whole[:full-1]+"!")), api.OK)
	wantWrite(t, list(ext(1, whole[1:])), 0, "!", list(ext(0, "!"+whole[1:])), api.OK)
	wantWrite(t, list(ext(0, whole[:5000]), ext(5001, whole[5001:])), 5000, "!", list(ext(0, whole[:5000]+"!"+whole[5001:])), api.OK)
}

// TestWritePlaces: P5.2, how data may lie to the extents that are there.
func TestWritePlaces(t *testing.T) {
	l := list(ext(4, "abcd"), ext(10, "ef"), ext(15, "ghi"))
	a, e, g := l[0], l[1], l[2]
	for _, c := range []struct {
		from int64
		data string
		want []api.Extent
	}{
		{8, "Z", list(ext(4, "abcdZ"), e, g)},   // touches one before it
		{3, "Z", list(ext(3, "Zabcd"), e, g)},   // touches one behind it
		{8, "ZY", list(ext(4, "abcdZYef"), g)},  // touches both
		{9, "Z", list(a, ext(9, "Zef"), g)},     // touches one behind it, a hole of one byte before it
		{12, "ZY", list(a, ext(10, "efZY"), g)}, // and the other way round
		{13, "Z", list(a, e, ext(13, "Z"), g)},  // a hole of one byte on both sides
		{2, "Z", list(ext(2, "Z"), a, e, g)},    // and on one
		{19, "Z", list(a, e, g, ext(19, "Z"))},
		{0, "Z", list(ext(0, "Z"), a, e, g)},
		{5, "ZY", list(ext(4, "aZYd"), e, g)},     // lies within one extent
		{4, "Z", list(ext(4, "Zbcd"), e, g)},      // at its beginning
		{7, "Z", list(ext(4, "abcZ"), e, g)},      // at its end
		{4, "ZYXW", list(ext(4, "ZYXW"), e, g)},   // covers one just
		{3, "ZYXWV", list(ext(3, "ZYXWV"), e, g)}, // or more than it
		{4, "ZYXWV", list(ext(4, "ZYXWV"), e, g)},
		{3, "ZYXWVU", list(ext(3, "ZYXWVU"), e, g)},
		{9, "ZYXW", list(a, ext(9, "ZYXW"), g)},
		{4, "ZYXWVUTS", list(ext(4, "ZYXWVUTS"), g)}, // covers several
		{3, "ZYXWVUTSRQ", list(ext(3, "ZYXWVUTSRQ"), g)},
		{2, "ZYXWVUTSRQPONMLKJ", list(ext(2, "ZYXWVUTSRQPONMLKJ"))},
		{4, "ZYXWVUTSRQPONM", list(ext(4, "ZYXWVUTSRQPONM"))},
		{6, "ZYX", list(ext(4, "abZYX"), e, g)},            // overlaps the end of one
		{6, "ZYXW", list(ext(4, "abZYXWef"), g)},           // and touches the next
		{6, "ZYXWV", list(ext(4, "abZYXWVf"), g)},          // and overlaps its beginning
		{2, "ZYX", list(ext(2, "ZYXbcd"), e, g)},           // overlaps the beginning of one
		{6, "ZYXWVUTSRQP", list(ext(4, "abZYXWVUTSRQPi"))}, // a part of one, all of the next, a part of the last
		{11, "ZY", list(a, ext(10, "eZY"), g)},
		{17, "ZY", list(a, e, ext(15, "ghZY"))},
		{6, "cd", l}, // the bytes that are there
		{100, "Z\x00", list(a, e, g, ext(100, "Z\x00"))},
		{8, "\x00\x00", list(ext(4, "abcd\x00\x00ef"), g)}, // bytes 00 fill a hole
		{5, "\x00", list(ext(4, "a\x00cd"), e, g)},         // and make none
		{full - 1, "\x00", list(a, e, g, ext(full-1, "\x00"))},
		{0, strings.Repeat("\x00", 20), list(ext(0, strings.Repeat("\x00", 20)))},
		{8, "\xc3\xff", list(ext(4, "abcd\xc3\xffef"), g)}, // bytes that are no valid UTF-8
		{16, "\xa9", list(a, e, ext(15, "g\xa9i"))},
		{18, "\xc3", list(a, e, ext(15, "ghi\xc3"))},
		{18, letters(full - 18), list(a, e, ext(15, "ghi"+letters(full-18)))},
		{13, letters(full - 13), list(a, e, ext(13, letters(full-13)))},
		{5, letters(full - 5), list(ext(4, "a"+letters(full-5)))},
		{0, letters(16), list(ext(0, letters(16)+"hi"))},
		{0, letters(15), list(ext(0, letters(15)+"ghi"))},
		{0, letters(14), list(ext(0, letters(14)), g)},
	} {
		wantWrite(t, l, c.from, c.data, c.want, api.OK)
	}
}

// TestWriteAll: P5.2, bytes at all places of lists that have extents and holes at all of some offsets.
func TestWriteAll(t *testing.T) {
	for _, base := range []int64{0, 2, full - 7} {
		patterns(7, base, func(l []api.Extent) {
			for from := base - 2; from <= base+9; from++ {
				for n := range 10 {
					holdWrite(t, l, from, letters(n))
				}
				holdWrite(t, l, from, "\x00")
				holdWrite(t, l, from, "\xff\x00\x00")
			}
		})
	}
}

// TestCut: P5.3, in a hole, within an extent, at an extent's ends, and at all of the numbers.
func TestCut(t *testing.T) {
	l := list(ext(3, "abcd"), ext(9, "x"))
	for size, want := range map[int64][]api.Extent{
		0: nil, 1: nil, 2: nil, 3: nil,
		4: list(ext(3, "a")), 5: list(ext(3, "ab")), 6: list(ext(3, "abc")),
		7: l[:1], 8: l[:1], 9: l[:1],
		10: l, 11: l, full - 1: l, full: l, full + 1: l, greatest - 1: l, greatest: l,
	} {
		wantCut(t, l, size, want, api.OK)
	}
	for _, size := range []int64{-1, -2, -full, least + 1, least} {
		wantCut(t, l, size, nil, api.ErrArg)
		wantCut(t, nil, size, nil, api.ErrArg)
	}
	for _, l := range small() {
		for _, size := range numbers {
			holdCut(t, l, size)
		}
	}
	for _, base := range []int64{0, 1, full - 8} {
		patterns(8, base, func(l []api.Extent) {
			for size := base - 2; size <= base+10; size++ {
				holdCut(t, l, size)
			}
		})
	}
	whole := letters(full)
	for _, size := range []int64{1, 2, 500000, full - 1, full} {
		wantCut(t, list(ext(0, whole)), size, list(ext(0, whole[:size])), api.OK)
	}
	wantCut(t, list(ext(0, whole)), 0, nil, api.OK)
	wantCut(t, list(ext(0, whole)), full+1, list(ext(0, whole)), api.OK)
	wantCut(t, list(ext(0, whole)), greatest, list(ext(0, whole)), api.OK)
	for _, l := range known() {
		wantCut(t, l, 0, nil, api.OK)
		wantCut(t, l, full, l, api.OK)
		wantCut(t, l, -1, nil, api.ErrArg)
	}
}

// TestStored: P5.3, the stored bytes are counted, bytes 00 too, and holes are not.
func TestStored(t *testing.T) {
	for want, l := range map[int64][]api.Extent{
		0:        nil,
		1:        list(ext(full-1, "a")),
		2:        list(ext(0, "a"), ext(full-1, "\x00")),
		3:        list(ext(7, "\x00\x00\x00")),
		5:        list(ext(3, "abcd"), ext(9, "x")),
		6:        list(ext(1, "\xff\xc3\xa9"), ext(9, "é\x00")),
		full:     list(ext(0, letters(full))),
		full - 1: list(ext(0, letters(500000)), ext(500001, letters(full-500001))),
	} {
		wantStored(t, l, want, api.OK)
	}
	wantStored(t, []api.Extent{}, 0, api.OK)
	patterns(8, full-8, func(l []api.Extent) { wantStored(t, l, int64(len(contentOf(l))), api.OK) })
}

// TestOrder: P5.1 to P5.3, of several errors the one that the promise names first.
func TestOrder(t *testing.T) {
	bad := list(ext(0, "a"), ext(1, "b"))
	big := letters(full + 1)
	wantWrite(t, bad, full, "z", nil, api.ErrArg)
	wantWrite(t, bad, 0, big, nil, api.ErrArg)
	wantWrite(t, bad, greatest, "", nil, api.ErrArg)
	wantWrite(t, bad, -1, big, nil, api.ErrArg)
	wantWrite(t, nil, -1, big, nil, api.ErrArg)
	wantWrite(t, nil, -2, big, nil, api.ErrArg)
	wantWrite(t, nil, least, big, nil, api.ErrArg)
	wantWrite(t, nil, -1, "", nil, api.ErrArg)
	wantWrite(t, nil, 0, big, nil, api.ErrFBig)
	wantWrite(t, nil, full+1, "", nil, api.ErrFBig)
	wantRead(t, bad, -1, -1, -1, "", api.ErrArg)
	wantRead(t, nil, full+1, -1, -1, "", api.ErrArg)
	wantCut(t, bad, -1, nil, api.ErrArg)
}

// TestZeros: a byte 00 that is stored is read as a hole is, but is none.
func TestZeros(t *testing.T) {
	hole := list(ext(0, "a"), ext(4, "b"))
	filled := written(t, hole, 1, "\x00\x00\x00")
	if want := list(ext(0, "a\x00\x00\x00b")); !slices.Equal(filled, want) {
		t.Errorf("%s; want %s", told(filled), told(want))
	}
	wantRead(t, hole, 5, 0, 5, "a\x00\x00\x00b", api.OK)
	wantRead(t, filled, 5, 0, 5, "a\x00\x00\x00b", api.OK)
	wantStored(t, hole, 2, api.OK)
	wantStored(t, filled, 5, api.OK)
	wantCut(t, filled, 3, list(ext(0, "a\x00\x00")), api.OK)
	wantCut(t, hole, 3, list(ext(0, "a")), api.OK)
	wantWrite(t, filled, 0, "\x00", list(ext(0, "\x00\x00\x00\x00b")), api.OK)
	zeros := strings.Repeat("\x00", full)
	wantWrite(t, nil, 0, zeros, list(ext(0, zeros)), api.OK)
	wantStored(t, list(ext(0, zeros)), full, api.OK)
}

// TestBytes: every value of a byte is kept as it is, alone and beside others.
func TestBytes(t *testing.T) {
	for b := range 256 {
		s := string([]byte{byte(b)})
		wantWrite(t, nil, 7, s, list(ext(7, s)), api.OK)
		wantRead(t, list(ext(7, s)), 9, 6, 9, "\x00"+s+"\x00", api.OK)
		wantCut(t, list(ext(7, s+s)), 8, list(ext(7, s)), api.OK)
		for c := range 256 {
			pair := s + string([]byte{byte(c)})
			wantWrite(t, list(ext(7, s)), 8, pair[1:], list(ext(7, pair)), api.OK)
		}
	}
}

// TestManyExtents: as many extents as a file may have, with holes of one byte between them.
func TestManyExtents(t *testing.T) {
	l := make([]api.Extent, full/2)
	for i := range l {
		l[i] = ext(int64(2*i), "e")
	}
	wantStored(t, l, full/2, api.OK)
	wantRead(t, l, full, 0, full, strings.Repeat("e\x00", full/2), api.OK)
	wantCut(t, l, full, l, api.OK)
	wantCut(t, l, full/2+1, l[:full/4+1], api.OK)
	wantWrite(t, l, 0, "", l, api.OK)
	wantWrite(t, l, full-1, "z", append(slices.Clone(l[:full/2-1]), ext(full-2, "ez")), api.OK)
	wantWrite(t, l, 3, "z", append(list(l[0], ext(2, "eze")), l[3:]...), api.OK)
	wantWrite(t, l, 0, letters(full), list(ext(0, letters(full))), api.OK)
	l[len(l)-1].Data = "ez!"
	wantStored(t, l, 0, api.ErrArg)
	wantCut(t, l, 0, nil, api.ErrArg)
}

// spared is l with spare capacity behind it, and all of that memory.
func spared(l []api.Extent) ([]api.Extent, []api.Extent) {
	whole := append(slices.Clone(l), ext(100, "spare"), ext(-1, ""), ext(greatest, "s"), ext(0, "spare"))
	return whole[:len(l)], whole
}

// overwrite changes all extents of a list, and those of its spare capacity.
func overwrite(l []api.Extent) {
	for i := range l[:cap(l)] {
		l[:cap(l)][i] = ext(-7, "overwritten")
	}
}

// answers are what is answered with a list, as a list.
func answers() map[string]func(l []api.Extent) ([]api.Extent, api.Errno) {
	out := map[string]func(l []api.Extent) ([]api.Extent, api.Errno){
		"Read": func(l []api.Extent) ([]api.Extent, api.Errno) {
			s, e := extent.Read(l, 40, 2, 30)
			return list(ext(0, s)), e
		},
		"Stored": func(l []api.Extent) ([]api.Extent, api.Errno) {
			n, e := extent.Stored(l)
			return list(ext(n, "")), e
		},
	}
	for _, size := range []int64{-1, 0, 1, 2, 3, 4, 5, full, greatest} {
		out[fmt.Sprint("Cut at ", size)] = func(l []api.Extent) ([]api.Extent, api.Errno) { return extent.Cut(l, size) }
	}
	for _, from := range []int64{-1, 0, 2, 5, 6, 30, full - 1, full, greatest} {
		for n := range 4 {
			out[fmt.Sprint("Write of ", n, " at ", from)] = func(l []api.Extent) ([]api.Extent, api.Errno) {
				return extent.Write(l, from, letters(n))
			}
		}
	}
	return out
}

// TestArguments: R3, nothing is written into the list that is handed in nor behind it, it isn't kept, and an answer is new memory.
func TestArguments(t *testing.T) {
	all := append(small(), badPairs()...)
	patterns(6, 0, func(l []api.Extent) { all = append(all, l) })
	for _, x := range list(ext(-1, "a"), ext(3, ""), ext(full, "a"), ext(greatest, "a")) {
		all = append(all, list(x), list(ext(0, "a"), x), list(x, ext(5, "a")))
	}
	for name, answer := range answers() {
		for _, given := range all {
			l, whole := spared(given)
			before := slices.Clone(whole)
			first, e := answer(l)
			second, f := answer(l)
			if !slices.Equal(first, second) || e != f {
				t.Errorf("%s, %s: %s, %d and then %s, %d", name, told(given), told(first), e, told(second), f)
			}
			kept := slices.Clone(second)
			overwrite(first)
			if !slices.Equal(whole, before) {
				t.Errorf("%s, %s: the list and what is behind it are now %s", name, told(given), told(whole))
			}
			overwrite(l)
			if !slices.Equal(second, kept) {
				t.Errorf("%s, %s: a result has become %s", name, told(given), told(second))
			}
			copy(whole, before)
			if third, f := answer(l); !slices.Equal(third, kept) || f != e {
				t.Errorf("%s, %s: %s, %d later; want %s, %d", name, told(given), told(third), f, told(kept), e)
			}
		}
	}
}

// TestReadsWhatWasWritten: P5.4, and every other byte is as it was, stored or not.
func TestReadsWhatWasWritten(t *testing.T) {
	for _, base := range []int64{0, full - 7} {
		patterns(7, base, func(l []api.Extent) {
			flat := read(t, l, full, base, 7)
			for from := range int64(8) {
				for n := range 8 - from {
					data := strings.ToUpper(letters(int(n)))
					m := written(t, l, base+from, data)
					if got := read(t, m, full, base+from, n); got != data {
						t.Errorf("%s: %s is read, which was written at %d: %s", told(l), brief(got), base+from, brief(data))
					}
					if got, want := read(t, m, full, base, 7), flat[:from]+data+flat[from+n:]; got != want {
						t.Errorf("%s, after %s at %d: %q; want %q", told(l), brief(data), base+from, got, want)
					}
					if got, want := cut(t, m, base+from), cut(t, l, base+from); !slices.Equal(got, want) {
						t.Errorf("%s, before %s at %d: %s; want %s", told(l), brief(data), base+from, told(got), told(want))
					}
					got := stored(t, m) - stored(t, cut(t, m, base+from+n))
					want := stored(t, l) - stored(t, cut(t, l, base+from+n))
					if got != want {
						t.Errorf("%s, behind %s at %d: %d bytes are stored; want %d", told(l), brief(data), base+from, got, want)
					}
				}
			}
		})
	}
}

// orders calls visit with the pieces in each order.
func orders(pieces []api.Extent, visit func(l []api.Extent)) {
	var choose func(done, left []api.Extent)
	choose = func(done, left []api.Extent) {
		if len(left) == 0 {
			visit(done)
		}
		for i := range left {
			choose(append(slices.Clone(done), left[i]), slices.Delete(slices.Clone(left), i, i+1))
		}
	}
	choose(nil, pieces)
}

// TestPiecesInAnyOrder: P5.4, pieces that touch or don't make the same list in whatever order they are written.
func TestPiecesInAnyOrder(t *testing.T) {
	for _, c := range []struct{ pieces, want []api.Extent }{
		{list(ext(0, "ab"), ext(2, "c"), ext(3, "def"), ext(7, "g"), ext(9, "hi")), list(ext(0, "abcdef"), ext(7, "g"), ext(9, "hi"))},
		{list(ext(1, "a"), ext(2, "\x00"), ext(3, "\xc3"), ext(4, "\xa9"), ext(5, "e")), list(ext(1, "a\x00\xc3\xa9e"))},
		{list(ext(0, "a"), ext(2, "b"), ext(4, "c"), ext(6, "d"), ext(8, "e")), list(ext(0, "a"), ext(2, "b"), ext(4, "c"), ext(6, "d"), ext(8, "e"))},
		{list(ext(0, "a"), ext(full-1, "e"), ext(full-3, "cd"), ext(full-5, "b"), ext(1, "")), list(ext(0, "a"), ext(full-5, "b"), ext(full-3, "cde"))},
	} {
		orders(c.pieces, func(pieces []api.Extent) {
			var l []api.Extent
			for _, x := range pieces {
				l = written(t, l, x.From, x.Data)
			}
			if !slices.Equal(l, c.want) {
				t.Errorf("pieces in the order of %s: %s; want %s", told(pieces), told(l), told(c.want))
			}
		})
	}
	random := rand.New(rand.NewSource(1))
	whole := letters(full)
	for range 3 {
		var l []api.Extent
		for _, i := range random.Perm(64) {
			from := i * (full / 64)
			l = written(t, l, int64(from), whole[from:from+full/64])
		}
		if !slices.Equal(l, list(ext(0, whole))) {
			t.Errorf("a full file in pieces: %s", told(l))
		}
	}
}

// TestPiecesOfAnySize: P5.4, the same bytes in other pieces and another order.
func TestPiecesOfAnySize(t *testing.T) {
	random := rand.New(rand.NewSource(2))
	for range 300 {
		base := []int64{0, 500000, full - 200}[random.Intn(3)]
		c := content{}
		for at := range int64(200) {
			if random.Intn(8) > 0 {
				c[base+at] = byte(random.Intn(256))
			}
		}
		want := c.list()
		for range 4 {
			var pieces, l []api.Extent
			for _, x := range want {
				for x.Data != "" {
					n := 1 + random.Intn(min(len(x.Data), 20))
					pieces = append(pieces, ext(x.From, x.Data[:n]))
					x = ext(x.From+int64(n), x.Data[n:])
				}
			}
			random.Shuffle(len(pieces), func(i, j int) { pieces[i], pieces[j] = pieces[j], pieces[i] })
			for _, x := range pieces {
				l = written(t, l, x.From, x.Data)
			}
			if !slices.Equal(l, want) {
				t.Fatalf("pieces in the order of %s: %s; want %s", told(pieces), told(l), told(want))
			}
		}
	}
}

// TestRandom: P5.1 to P5.4, long runs of writes and cuts, each on what the one before it answered.
func TestRandom(t *testing.T) {
	random := rand.New(rand.NewSource(3))
	for run := range 30 {
		base := []int64{0, 1000, full - 64}[run%3]
		var l []api.Extent
		for range 200 {
			from := base + int64(random.Intn(66)) - 1
			data := make([]byte, random.Intn(12))
			random.Read(data)
			want, e := wasWritten(l, from, string(data))
			if random.Intn(8) == 0 {
				want, e = wasCut(l, from)
				wantCut(t, l, from, want, e)
			} else {
				wantWrite(t, l, from, string(data), want, e)
			}
			if e == api.OK {
				l = want
			}
			wantStored(t, l, int64(len(contentOf(l))), api.OK)
			holdRead(t, l, base+64-int64(random.Intn(20)), base+int64(random.Intn(70))-2, int64(random.Intn(80)))
		}
	}
}

// TestNothingIsKept: R4, an answer hangs on nothing but the arguments, also not on a call that failed before.
func TestNothingIsKept(t *testing.T) {
	bad, l := list(ext(0, "a"), ext(1, "b")), list(ext(3, "abcd"), ext(9, "x"))
	for range 2 {
		wantRead(t, bad, 10, 0, 1, "", api.ErrArg)
		wantRead(t, l, 9, 0, 1, "", api.ErrArg)
		wantWrite(t, bad, 0, "z", nil, api.ErrArg)
		wantWrite(t, l, full, "z", nil, api.ErrFBig)
		wantCut(t, l, -1, nil, api.ErrArg)
		wantStored(t, bad, 0, api.ErrArg)
		wantRead(t, l, 10, 2, 20, "\x00abcd\x00\x00x", api.OK)
		wantWrite(t, l, 7, "z", list(ext(3, "abcdz"), ext(9, "x")), api.OK)
		wantWrite(t, nil, 7, "z", list(ext(7, "z")), api.OK)
		wantCut(t, l, 5, list(ext(3, "ab")), api.OK)
		wantStored(t, l, 5, api.OK)
	}
}
