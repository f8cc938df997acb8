package inode_test

import (
	"math/rand"
	"slices"
	"strings"
	"testing"

	"hayward/api"
	"hayward/inode"
)

// The signatures are part of the chapter.
var (
	_ func(c api.Caps) (*inode.Store, api.Errno)                        = inode.New
	_ func(s *inode.Store, kind int) (int, api.Errno)                   = (*inode.Store).Make
	_ func(s *inode.Store, n int) api.Errno                             = (*inode.Store).Link
	_ func(s *inode.Store, n int) api.Errno                             = (*inode.Store).Unlink
	_ func(s *inode.Store, n int) api.Errno                             = (*inode.Store).Open
	_ func(s *inode.Store, n int) api.Errno                             = (*inode.Store).Close
	_ func(s *inode.Store, n int, from, many int64) (string, api.Errno) = (*inode.Store).Read
	_ func(s *inode.Store, n int, from int64, data string) api.Errno    = (*inode.Store).Write
	_ func(s *inode.Store, n int, size int64) api.Errno                 = (*inode.Store).Trunc
	_ func(s *inode.Store, n int) (api.Stat, api.Errno)                 = (*inode.Store).Stat
	_ func(s *inode.Store) []api.Stat                                   = (*inode.Store).All
)

var (
	// numbers are those at which something changes, for sizes, offsets and counts of bytes alike.
	numbers = []int64{least, least + 1, -full - 1, -full, -2, -1, 0, 1, 2, 3, 5, 8, 9, full - 2, full - 1, full, full + 1, 1 << 32, 1<<32 + 5, greatest - full, greatest - 1, greatest}
	// kinds are numbers that are none.
	kinds = []int{least, least + 1, -2, -1, 0, 3, 4, 5, 257, 258, 1 << 32, 1<<32 + 1, 1<<32 + 2, 1<<62 + 1, greatest - 1, greatest}
	// great are numbers that no inode has.
	great = []int{least, least + 1, -1 << 32, 1 - 1<<32, -4097, -4096, -3, -2, -1, 0, 4097, 65537, 1 << 32, 1<<32 + 1, 1<<32 + 2, 1<<62 + 1, greatest - 1, greatest}
)

// letters is so many bytes, each of which differs from those around it.
func letters(n int) string {
	return strings.Repeat("abcdefghijklmnopqrstuvwxyz012345", n/32+1)[:n]
}

// TestExamples are the chapter's, one row after the other.
func TestExamples(t *testing.T) {
	h := hold(t, 2, 10, 2)
	h.made(api.KFile, 1)
	h.made(api.KDir, 2)
	if n, e := h.make(api.KFile); n != 0 || e != api.ErrNoSpc {
		t.Errorf("a third Make = %d, %d", n, e)
	}
	h.must(h.write(1, 5, "abc"), api.OK)
	h.is(1, api.KFile, 1, 0, 8, 3)
	h.reads(1, 4, 9, "\x00abc")
	h.must(h.write(1, 20, "12345678"), api.ErrNoSpc)
	h.reads(1, 4, 9, "\x00abc")
	h.must(h.trunc(1, 6), api.OK)
	h.is(1, api.KFile, 1, 0, 6, 1)
	h.must(h.count(1, "Link"), api.OK)
	h.must(h.count(1, "Link"), api.ErrMLink)
	if d, e := h.read(2, 0, 1); d != "" || e != api.ErrIsDir {
		t.Errorf("Read of a directory = %q, %d", d, e)
	}
	h.done(1, "Open", "Unlink", "Unlink")
	h.is(1, api.KFile, 0, 1, 6, 1)
	h.check()
	h.done(1, "Close")
	h.isGone(1)
	h.check()
}

// TestNew holds P11.1 at each capacity's bounds, whatever the other fields are.
func TestNew(t *testing.T) {
	type capacity struct {
		n  int
		ok bool
	}
	inodes := []capacity{{least, false}, {-1, false}, {0, false}, {1, true}, {2, true}, {4095, true}, {4096, true}, {4097, false}, {1<<32 + 1, false}, {greatest, false}}
	bytes := []capacity{{least, false}, {-2, false}, {-1, false}, {0, true}, {1, true}, {16777215, true}, {16777216, true}, {16777217, false}, {1 << 32, false}, {greatest, false}}
	links := []capacity{{least, false}, {-1, false}, {0, false}, {1, true}, {2, true}, {32767, true}, {32768, true}, {32769, false}, {1<<32 + 1, false}, {greatest, false}}
	for _, i := range inodes {
		for _, b := range bytes {
			for _, l := range links {
				for _, other := range []int{least, -1, 0, 1, 7, 64, 65, 1025, 65537, greatest} {
					c := api.Caps{Inodes: i.n, Bytes: b.n, Links: l.n, Files: other, Opens: other, Procs: other, Frames: other}
					s, e := inode.New(c)
					if i.ok && b.ok && l.ok {
						if s == nil || e != api.OK || len(s.All()) != 0 {
							t.Fatalf("New(%+v) = %v, %d; want a store without inodes", c, s, e)
						}
					} else if s != nil || e != api.ErrArg {
						t.Fatalf("New(%+v) = %v, %d; want ErrArg", c, s, e)
					}
				}
			}
		}
	}
	for f := range 4 {
		for _, n := range []int{least, -1, 0, 1, greatest} {
			c := api.Caps{Inodes: 3, Bytes: 3, Links: 3}
			*[]*int{&c.Files, &c.Opens, &c.Procs, &c.Frames}[f] = n
			if s, e := inode.New(c); s == nil || e != api.OK {
				t.Errorf("New(%+v) = %v, %d", c, s, e)
			}
		}
	}
}

// TestYoung holds that a new store has no inodes, and that none of any number is found.
func TestYoung(t *testing.T) {
	for _, inodes := range []int{1, 2, 40, 4096} {
		h := hold(t, inodes, 10, 2)
		h.check()
		strangers(h)
	}
}

// TestMake holds P11.2: kinds, and numbers from 1 on until the store is full.
func TestMake(t *testing.T) {
	for _, inodes := range []int{1, 2, 3, 7, 4095, 4096} {
		h := hold(t, inodes, 0, 1)
		for n := 1; n <= inodes; n++ {
			if n < 4 {
				noKinds(h)
			}
			kind := 1 + n%3%2
			h.made(kind, n)
			h.is(n, kind, 1, 0, 0, 0)
		}
		h.check()
		for range 2 {
			for _, kind := range []int{api.KFile, api.KDir} {
				if n, e := h.make(kind); n != 0 || e != api.ErrNoSpc {
					t.Errorf("Make on a full store = %d, %d", n, e)
				}
			}
			noKinds(h)
		}
		h.check()
	}
}

// noKinds demands that nothing of another kind is made, be the store full or not.
func noKinds(h *held) {
	h.t.Helper()
	for _, kind := range kinds {
		if n, e := h.make(kind); n != 0 || e != api.ErrArg {
			h.t.Errorf("Make(%d) = %d, %d; want ErrArg", kind, n, e)
		}
	}
}

// TestLowest holds that the lowest number that is not in use is given, whichever inodes have gone, and in whatever order.
func TestLowest(t *testing.T) {
	const inodes = 7
	for gone := range 1 << inodes {
		for _, down := range []bool{false, true} {
			h := hold(t, inodes, 0, 1)
			for n := 1; n <= inodes; n++ {
				h.made(api.KFile, n)
			}
			var free []int
			for n := 1; n <= inodes; n++ {
				if gone>>(n-1)&1 == 1 {
					free = append(free, n)
				}
			}
			for i := range free {
				if down {
					i = len(free) - 1 - i
				}
				h.done(free[i], "Unlink")
			}
			for _, n := range free {
				h.made(api.KDir, n)
			}
			h.check()
			if _, e := h.make(api.KFile); e != api.ErrNoSpc {
				t.Errorf("Make on a store that is full again tells %d", e)
			}
		}
	}
}

// TestLowestOfMany is the same for a store with the greatest number of inodes.
func TestLowestOfMany(t *testing.T) {
	h := hold(t, 4096, 0, 1)
	for n := 1; n <= 4096; n++ {
		h.made(api.KFile, n)
	}
	var free []int
	for n := 1; n <= 4096; n += 1 + n%53 {
		free = append(free, n)
	}
	if !slices.Contains(free, 4096) {
		free = append(free, 4096)
	}
	for _, n := range slices.Backward(free) {
		h.done(n, "Unlink")
	}
	for _, n := range free {
		h.made(api.KDir, n)
	}
	if _, e := h.make(api.KFile); e != api.ErrNoSpc {
		t.Errorf("Make on a full store tells %d", e)
	}
	h.check()
}

// TestLinks holds that an inode has as many links as the capacity says, and no more.
func TestLinks(t *testing.T) {
	for _, links := range []int{1, 2, 3, 10, 32767, 32768} {
		for _, kind := range []int{api.KFile, api.KDir} {
			h := hold(t, 3, 5, links)
			h.made(kind, 1)
			h.made(kind, 2)
			for n := 2; n <= links; n++ {
				h.done(1, "Link")
			}
			for range 2 {
				h.must(h.count(1, "Link"), api.ErrMLink)
				h.is(1, kind, links, 0, 0, 0)
			}
			h.is(2, kind, 1, 0, 0, 0)
			h.done(1, "Open", "Unlink")
			h.is(1, kind, links-1, 1, 0, 0)
			h.done(1, "Link")
			h.must(h.count(1, "Link"), api.ErrMLink)
			h.done(1, "Close")
			for n := links; n > 1; n-- {
				h.done(1, "Unlink")
			}
			h.is(1, kind, 1, 0, 0, 0)
			h.done(1, "Unlink")
			h.isGone(1)
			h.check()
		}
	}
}

// TestNothingLeft holds Unlink and Close at 0: an inode that is still there otherwise stays as it is.
func TestNothingLeft(t *testing.T) {
	for _, kind := range []int{api.KFile, api.KDir} {
		h := hold(t, 3, 5, 2)
		h.made(kind, 1)
		for range 2 {
			h.must(h.count(1, "Close"), api.ErrArg)
			h.is(1, kind, 1, 0, 0, 0)
		}
		h.done(1, "Open", "Close")
		h.must(h.count(1, "Close"), api.ErrArg)
		h.done(1, "Open", "Open", "Unlink")
		for range 2 {
			h.must(h.count(1, "Unlink"), api.ErrArg)
			h.is(1, kind, 0, 2, 0, 0)
		}
		h.done(1, "Link", "Link")
		h.must(h.count(1, "Link"), api.ErrMLink)
		h.is(1, kind, 2, 2, 0, 0)
		h.done(1, "Close", "Close")
		h.must(h.count(1, "Close"), api.ErrArg)
		h.check()
	}
}

// TestManyOpens holds that opens have no capacity.
func TestManyOpens(t *testing.T) {
	h := hold(t, 1, 0, 1)
	h.made(api.KDir, 1)
	for range 70000 {
		h.done(1, "Open")
	}
	h.is(1, api.KDir, 1, 70000, 0, 0)
	h.done(1, "Unlink")
	for range 69999 {
		h.done(1, "Close")
	}
	h.is(1, api.KDir, 0, 1, 0, 0)
	h.done(1, "Close")
	h.isGone(1)
}

// TestEveryOrder holds P11.3 and P11.6 for all orders of eight counts up and down, of an inode with two links at the most.
func TestEveryOrder(t *testing.T) {
	const steps = 8
	for order := range 1 << (2 * steps) {
		h := hold(t, 1, 0, 2)
		h.made(1+order%2, 1)
		for i := range steps {
			h.count(1, names[order>>(2*i)&3])
			_, there := h.m.items[1]
			if _, e := h.s.Stat(1); (e == api.OK) != there {
				t.Fatalf("order %d: behind step %d, Stat tells %d", order, i, e)
			}
		}
		h.check()
	}
}

// TestGoesAway holds that an inode goes just when its last link or open goes, with what it stores, and that the bytes and the number are given anew.
func TestGoesAway(t *testing.T) {
	for _, calls := range []string{
		"Unlink",
		"Link Unlink Unlink",
		"Open Unlink Close",
		"Open Close Unlink",
		"Open Open Unlink Close Close",
		"Link Open Unlink Unlink Close",
		"Link Open Unlink Close Unlink",
		"Open Unlink Link Close Unlink",
		"Open Unlink Link Unlink Close",
		"Open Unlink Open Close Close",
	} {
		h := hold(t, 3, 10, 2)
		h.made(api.KFile, 1)
		h.made(api.KFile, 2)
		h.must(h.write(1, 3, "abcd"), api.OK)
		h.must(h.write(1, 9, "xy"), api.OK)
		h.must(h.write(2, 0, "1234"), api.OK)
		list := strings.Fields(calls)
		for _, what := range list {
			h.reads(1, 2, 20, "\x00abcd\x00\x00xy")
			h.must(h.write(2, 9, "!"), api.ErrNoSpc)
			h.done(1, what)
			h.check()
		}
		h.isGone(1)
		if e := h.count(1, list[len(list)-1]); e != api.ErrNoEnt {
			t.Errorf("%s: behind it the last call tells %d", calls, e)
		}
		h.must(h.write(2, 1, "abcdefghij"), api.ErrNoSpc)
		h.must(h.write(2, 1, "abcdefghi"), api.OK)
		h.made(api.KFile, 1)
		h.is(1, api.KFile, 1, 0, 0, 0)
		h.reads(1, 0, full, "")
		h.must(h.trunc(1, 11), api.OK)
		h.reads(1, 0, full, strings.Repeat("\x00", 11))
		h.must(h.write(1, 0, "a"), api.ErrNoSpc)
		h.check()
	}
}

// TestOtherKind holds that a number that is given anew has nothing of what had it.
func TestOtherKind(t *testing.T) {
	h := hold(t, 2, 4, 3)
	for i := range 12 {
		kind := 1 + i%2
		h.made(kind, 1)
		h.is(1, kind, 1, 0, 0, 0)
		h.done(1, "Link", "Open")
		if kind == api.KFile {
			h.must(h.write(1, 6, "abcd"), api.OK)
			h.is(1, kind, 2, 1, 10, 4)
		} else {
			h.must(h.write(1, 6, "abcd"), api.ErrIsDir)
		}
		h.check()
		h.done(1, "Unlink", "Unlink", "Close")
		h.check()
	}
}

// strangers demands that every call tells ErrNoEnt of numbers that no inode has, whatever else it is given.
func strangers(h *held) {
	h.t.Helper()
	for _, n := range append(slices.Clone(great), h.m.caps.Inodes+1, h.m.caps.Inodes+2, h.m.caps.Inodes) {
		if _, there := h.m.items[n]; there {
			continue
		}
		for _, what := range names {
			h.must(counts(h.s)[what](n), api.ErrNoEnt)
		}
		h.isGone(n)
		for _, a := range numbers {
			for _, b := range []int64{least, -1, 0, 1, greatest} {
				if d, e := h.s.Read(n, a, b); d != "" || e != api.ErrNoEnt {
					h.t.Fatalf("Read(%d, %d, %d) = %s, %d; want ErrNoEnt", n, a, b, brief(d), e)
				}
			}
			for _, data := range []string{"", "a", "abcdefghijklmnop"} {
				h.must(h.s.Write(n, a, data), api.ErrNoEnt)
			}
			h.must(h.s.Trunc(n, a), api.ErrNoEnt)
		}
	}
	h.check()
}

// TestStrangers holds ErrNoEnt on stores with some inodes, with all, and where some are gone.
func TestStrangers(t *testing.T) {
	for _, inodes := range []int{1, 2, 5, 4096} {
		h := hold(t, inodes, 3, 1)
		h.made(api.KFile, 1)
		h.must(h.write(1, 1, "abc"), api.OK)
		strangers(h)
		for n := 2; n <= inodes; n++ {
			h.made(1+n%2, n)
		}
		strangers(h)
		h.done(inodes, "Unlink")
		strangers(h)
	}
}

// TestDirectories holds that bytes of a directory are neither read nor written, whatever else is wrong.
func TestDirectories(t *testing.T) {
	h := hold(t, 3, 3, 2)
	h.made(api.KDir, 1)
	h.made(api.KFile, 2)
	h.must(h.write(2, 0, "abc"), api.OK)
	h.done(1, "Open")
	for _, a := range numbers {
		for _, b := range numbers {
			if d, e := h.s.Read(1, a, b); d != "" || e != api.ErrIsDir {
				t.Fatalf("Read(1, %d, %d) = %s, %d; want ErrIsDir", a, b, brief(d), e)
			}
		}
		for _, data := range []string{"", "a", letters(full + 1)} {
			h.must(h.s.Write(1, a, data), api.ErrIsDir)
		}
		h.must(h.s.Trunc(1, a), api.ErrIsDir)
	}
	h.is(1, api.KDir, 1, 1, 0, 0)
	h.check()
}

// files fills a store with files of all kinds: empty ones, with gaps, ones whose size is the greatest, with and without bytes; and a directory. So many bytes may still be stored.
func files(t *testing.T, spare int) *held {
	h := hold(t, 12, 3+5+2+3+2030+16+spare, 3)
	for n := 1; n <= 9; n++ {
		h.made(api.KFile, n)
	}
	h.made(api.KDir, 10)
	h.must(h.write(2, 0, "a\x00c"), api.OK)
	h.must(h.write(3, 3, "abcd"), api.OK)
	h.must(h.write(3, 9, "x"), api.OK)
	h.must(h.write(4, 5, "\xff\xfe"), api.OK)
	h.must(h.trunc(4, 9), api.OK)
	h.must(h.trunc(5, full), api.OK)
	h.must(h.write(6, full-2, "yz"), api.OK)
	h.must(h.write(6, 1, "b"), api.OK)
	h.must(h.write(7, full-2000, letters(2000)), api.OK)
	h.must(h.write(7, 0, letters(30)), api.OK)
	h.must(h.trunc(8, 8), api.OK)
	for at := range int64(16) {
		h.must(h.write(9, 2*at, string([]byte{byte(200 + at)})), api.OK)
	}
	h.whole()
	return h
}

// TestRead holds Read at all pairs of edges, of files of all kinds.
func TestRead(t *testing.T) {
	h := files(t, 0)
	for n := 1; n <= 10; n++ {
		for _, from := range numbers {
			for _, many := range numbers {
				h.read(n, from, many)
			}
		}
	}
	h.reads(3, 2, 20, "\x00abcd\x00\x00x")
	h.reads(3, 5, 3, "cd\x00")
	h.reads(3, 9, 1, "x")
	h.reads(3, 9, 0, "")
	h.reads(3, 10, 1, "")
	h.reads(3, 9, greatest, "x")
	h.reads(3, greatest, greatest, "")
	h.reads(4, 6, 7, "\xfe\x00\x00")
	h.reads(6, full-3, 9, "\x00yz")
	h.reads(8, 0, greatest, strings.Repeat("\x00", 8))
	h.reads(1, 0, 1, "")
	for _, c := range [][2]int64{{-1, 0}, {0, -1}, {-1, -1}, {least, 1}, {1, least}, {greatest, -1}, {full, least}} {
		if d, e := h.read(3, c[0], c[1]); d != "" || e != api.ErrArg {
			t.Errorf("Read(3, %d, %d) = %s, %d; want ErrArg", c[0], c[1], brief(d), e)
		}
	}
	h.check()
}

// TestWriteArguments holds Write's errors and sizes at all edges, with room for every byte, for a few and for none.
func TestWriteArguments(t *testing.T) {
	data := []string{"", "a", "bc", letters(9), letters(full - 1), letters(full), letters(full + 1)}
	for _, bytes := range []int{0, 1, 2, 9, full - 1, full} {
		for _, size := range []int64{0, 5, full} {
			for _, from := range numbers {
				for _, d := range data {
					h := hold(t, 1, bytes, 1)
					h.made(api.KFile, 1)
					h.must(h.trunc(1, size), api.OK)
					if e := h.write(1, from, d); e == api.OK {
						want := size
						if d != "" {
							want = max(size, from+int64(len(d)))
						}
						h.is(1, api.KFile, 1, 0, want, int64(len(d)))
					} else {
						h.is(1, api.KFile, 1, 0, size, 0)
					}
					if from > 3 && from < full-9 {
						h.read(1, from-3, 20)
					}
				}
			}
		}
	}
}

// TestWriteErrors holds which error is told, by listing: those of extent.Write ahead of ErrNoSpc.
func TestWriteErrors(t *testing.T) {
	for _, bytes := range []int{0, 3, 2 * full} {
		h := hold(t, 1, bytes, 1)
		h.made(api.KFile, 1)
		for _, from := range []int64{-1, -2, -full, least, least + 1} {
			for _, d := range []string{"", "a", letters(20), letters(full + 1)} {
				h.must(h.write(1, from, d), api.ErrArg)
			}
		}
		for _, from := range []int64{full + 1, full + 2, 1 << 32, greatest - 1, greatest} {
			for _, d := range []string{"", "a", letters(20), letters(full), letters(full + 1)} {
				h.must(h.write(1, from, d), api.ErrFBig)
			}
		}
		h.must(h.write(1, full, "a"), api.ErrFBig)
		h.must(h.write(1, full-1, "ab"), api.ErrFBig)
		h.must(h.write(1, full-19, letters(20)), api.ErrFBig)
		h.must(h.write(1, 1, letters(full)), api.ErrFBig)
		h.must(h.write(1, 0, letters(full+1)), api.ErrFBig)
		h.must(h.write(1, full, ""), api.OK)
		h.is(1, api.KFile, 1, 0, 0, 0)
		if bytes < full {
			for _, from := range []int64{0, 1, full - 4} {
				h.must(h.write(1, from, letters(4)), api.ErrNoSpc)
			}
			h.must(h.write(1, 0, letters(full)), api.ErrNoSpc)
		}
		h.is(1, api.KFile, 1, 0, 0, 0)
		h.check()
	}
}

// TestEmptyData holds that empty data changes nothing, wherever it is written, even where no byte can be stored any more.
func TestEmptyData(t *testing.T) {
	h := files(t, 0)
	for n := 1; n <= 9; n++ {
		before, _ := h.s.Stat(n)
		for _, from := range []int64{0, 1, 3, 4, 7, 9, 10, 11, full - 1, full} {
			h.must(h.write(n, from, ""), api.OK)
			if x, _ := h.s.Stat(n); x != before {
				t.Errorf("Write(%d, %d, \"\") makes %+v of %+v", n, from, x, before)
			}
		}
	}
	h.check()
}

// TestWrite holds what is read behind writes before, at, over and behind what is stored, and behind the end.
func TestWrite(t *testing.T) {
	h := hold(t, 1, 30, 1)
	h.made(api.KFile, 1)
	for _, c := range []struct {
		from         int64
		data, all    string
		size, stored int64
	}{
		{4, "ab", "\x00\x00\x00\x00ab", 6, 2},
		{6, "c", "\x00\x00\x00\x00abc", 7, 3},
		{9, "e", "\x00\x00\x00\x00abc\x00\x00e", 10, 4},
		{5, "XY", "\x00\x00\x00\x00aXY\x00\x00e", 10, 4},
		{0, "z", "z\x00\x00\x00aXY\x00\x00e", 10, 5},
		{6, "1234", "z\x00\x00\x00aX1234", 10, 7},
		{9, "56", "z\x00\x00\x00aX12356", 11, 8},
		{2, "\x00", "z\x00\x00\x00aX12356", 11, 9},
		{0, "0123456789ab", "0123456789ab", 12, 12},
		{3, "", "0123456789ab", 12, 12},
	} {
		h.must(h.write(1, c.from, c.data), api.OK)
		h.is(1, api.KFile, 1, 0, c.size, c.stored)
		h.reads(1, 0, 100, c.all)
		h.check()
	}
}

// TestGreatestFile holds a file up to its last byte.
func TestGreatestFile(t *testing.T) {
	h := hold(t, 2, full+1, 1)
	h.made(api.KFile, 1)
	h.must(h.write(1, full-1, "z"), api.OK)
	h.is(1, api.KFile, 1, 0, full, 1)
	h.must(h.write(1, full, "z"), api.ErrFBig)
	h.must(h.write(1, full-1, "zz"), api.ErrFBig)
	h.reads(1, full-2, 9, "\x00z")
	h.must(h.write(1, 0, letters(full)), api.OK)
	h.is(1, api.KFile, 1, 0, full, full)
	h.reads(1, 0, full, letters(full))
	h.reads(1, 0, greatest, letters(full))
	h.must(h.write(1, 0, letters(full+1)), api.ErrFBig)
	h.made(api.KFile, 2)
	h.must(h.write(2, 0, "ab"), api.ErrNoSpc)
	h.must(h.write(2, 7, "a"), api.OK)
	h.must(h.write(2, 8, "b"), api.ErrNoSpc)
	h.whole()
	h.must(h.trunc(1, full), api.OK)
	h.is(1, api.KFile, 1, 0, full, full)
	h.must(h.trunc(1, full-1), api.OK)
	h.is(1, api.KFile, 1, 0, full-1, full-1)
	h.reads(1, full-3, 9, letters(full)[full-3:full-1])
	h.must(h.trunc(1, full), api.OK)
	h.is(1, api.KFile, 1, 0, full, full-1)
	h.reads(1, full-3, 9, letters(full)[full-3:full-1]+"\x00")
}

// TestRoom holds ErrNoSpc exactly: for all sets of six offsets that are stored, other files' bytes, some room beside them, and all short writes. Bytes that are written over count once.
func TestRoom(t *testing.T) {
	for mask := range 1 << 6 {
		for others := range 2 {
			for spare := range 4 {
				for from := range int64(7) {
					for many := range 5 {
						room(t, mask, others, spare, from, letters(many))
					}
				}
			}
		}
	}
}

func room(t *testing.T, mask, others, spare int, from int64, data string) {
	t.Helper()
	stored, more := others, len(data)
	for i := range int64(6) {
		if mask>>i&1 == 1 {
			stored++
			if i >= from && i < from+int64(len(data)) {
				more--
			}
		}
	}
	h := hold(t, 2, stored+spare, 1)
	h.made(api.KFile, 1)
	h.made(api.KFile, 2)
	h.must(h.write(2, 3, letters(others)), api.OK)
	for i := range int64(6) {
		if mask>>i&1 == 1 {
			h.must(h.write(1, i, "X"), api.OK)
		}
	}
	want := api.OK
	if more > spare {
		want = api.ErrNoSpc
	}
	h.must(h.write(1, from, data), want)
	h.check()
	if want == api.OK {
		spare -= more
	}
	h.must(h.write(2, 100, letters(spare+1)), api.ErrNoSpc)
	h.must(h.write(2, 100, letters(spare)), api.OK)
	h.check()
}

// TestNoBytes holds a store that may store nothing: files have sizes alone.
func TestNoBytes(t *testing.T) {
	h := hold(t, 2, 0, 1)
	h.made(api.KFile, 1)
	h.must(h.write(1, 0, "a"), api.ErrNoSpc)
	h.must(h.write(1, 0, ""), api.OK)
	h.must(h.trunc(1, 3), api.OK)
	h.must(h.write(1, 1, "a"), api.ErrNoSpc)
	h.must(h.write(1, 1, "\x00"), api.ErrNoSpc)
	h.reads(1, 0, 9, "\x00\x00\x00")
	h.is(1, api.KFile, 1, 0, 3, 0)
	h.check()
}

// TestAllBytes holds the greatest capacity: sixteen files that are as large as files can be, and not one byte more.
func TestAllBytes(t *testing.T) {
	s, _ := inode.New(api.Caps{Inodes: 4096, Bytes: 16777216, Links: 1})
	text := letters(full)
	must := func(got, want api.Errno) {
		t.Helper()
		if got != want {
			t.Fatalf("the answer is %d; want %d", got, want)
		}
	}
	for n := 1; n <= 17; n++ {
		s.Make(api.KFile)
	}
	for n := 1; n <= 16; n++ {
		must(s.Write(n, 0, text), api.OK)
	}
	must(s.Write(17, 0, "a"), api.ErrNoSpc)
	must(s.Write(5, 0, text), api.OK)
	must(s.Trunc(9, full-1), api.OK)
	must(s.Write(17, 77, "ab"), api.ErrNoSpc)
	must(s.Write(17, 77, "a"), api.OK)
	must(s.Write(9, full-1, "a"), api.ErrNoSpc)
	must(s.Unlink(16), api.OK)
	must(s.Write(17, 0, text), api.OK)
	must(s.Write(9, full-1, "a"), api.OK)
	stored := int64(0)
	for _, x := range s.All() {
		stored += x.Stored
	}
	if stored != 16777216 {
		t.Errorf("%d bytes are stored", stored)
	}
	if d, e := s.Read(17, 0, full); d != text || e != api.OK {
		t.Errorf("Read = %s, %d", brief(d), e)
	}
}

// TestTrunc holds Trunc at all edges, of files of all kinds: what is cut off is stored no more, and reads as 00 when the file grows again.
func TestTrunc(t *testing.T) {
	for n := 1; n <= 9; n++ {
		h := files(t, 0)
		for _, size := range numbers {
			before, _ := h.s.Stat(n)
			want := api.OK
			switch {
			case size < 0:
				want = api.ErrArg
			case size > full:
				want = api.ErrFBig
			}
			h.must(h.trunc(n, size), want)
			x, _ := h.s.Stat(n)
			if want != api.OK && x != before || want == api.OK && x.Size != size {
				t.Errorf("Trunc(%d, %d) makes %+v of %+v", n, size, x, before)
			}
			h.check()
		}
		for _, size := range []int64{10, 9, 7, 4, 4, 3, 1, 0, 0, 20} {
			h.must(h.trunc(n, size), api.OK)
			h.check()
			h.must(h.trunc(n, full), api.OK)
			h.read(n, 0, 40)
			h.must(h.trunc(n, size), api.OK)
		}
		h.is(n, api.KFile, 1, 0, 20, 0)
		h.whole()
	}
}

// TestTruncMakesRoom holds that as many bytes may be stored anew as are cut off, and that a file that is only made larger takes none.
func TestTruncMakesRoom(t *testing.T) {
	for size := range int64(14) {
		h := hold(t, 2, 7, 1)
		h.made(api.KFile, 1)
		h.made(api.KFile, 2)
		h.must(h.write(1, 2, "abc"), api.OK)
		h.must(h.write(1, 7, "de"), api.OK)
		h.must(h.write(1, 11, "fg"), api.OK)
		h.must(h.write(2, 0, "x"), api.ErrNoSpc)
		h.must(h.trunc(1, size), api.OK)
		x, _ := h.s.Stat(1)
		cut := 7 - int(x.Stored)
		h.must(h.trunc(1, full), api.OK)
		h.must(h.trunc(2, full), api.OK)
		h.must(h.write(2, 3, letters(cut+1)), api.ErrNoSpc)
		h.must(h.write(2, 3, letters(cut)), api.OK)
		h.must(h.write(2, 99, "x"), api.ErrNoSpc)
		h.check()
	}
}

// TestStat holds sizes and stored bytes by numbers that are written out.
func TestStat(t *testing.T) {
	h := files(t, 3)
	h.done(9, "Link", "Open", "Open")
	h.done(10, "Link", "Link", "Open")
	want := []api.Stat{
		{Ino: 1, Kind: 1, Links: 1},
		{Ino: 2, Kind: 1, Links: 1, Size: 3, Stored: 3},
		{Ino: 3, Kind: 1, Links: 1, Size: 10, Stored: 5},
		{Ino: 4, Kind: 1, Links: 1, Size: 9, Stored: 2},
		{Ino: 5, Kind: 1, Links: 1, Size: full},
		{Ino: 6, Kind: 1, Links: 1, Size: full, Stored: 3},
		{Ino: 7, Kind: 1, Links: 1, Size: full, Stored: 2030},
		{Ino: 8, Kind: 1, Links: 1, Size: 8},
		{Ino: 9, Kind: 1, Links: 2, Opens: 2, Size: 31, Stored: 16},
		{Ino: 10, Kind: 2, Links: 3, Opens: 1},
	}
	if got := h.s.All(); !slices.Equal(got, want) {
		t.Errorf("All() = %+v; want %+v", got, want)
	}
	for _, x := range want {
		if got, e := h.s.Stat(x.Ino); got != x || e != api.OK {
			t.Errorf("Stat(%d) = %+v, %d; want %+v", x.Ino, got, e, x)
		}
	}
}

// TestAll holds the order of All, on stores with none, some and all inodes, in whatever order they came.
func TestAll(t *testing.T) {
	for _, inodes := range []int{1, 5, 300, 4096} {
		h := hold(t, inodes, 100, 3)
		if got := h.s.All(); len(got) != 0 {
			t.Errorf("All of an empty store = %+v", got)
		}
		for n := 1; n <= inodes; n++ {
			h.made(1+n%2, n)
		}
		h.check()
		for n := inodes; n >= 1; n -= 3 {
			h.done(n, "Unlink")
		}
		h.check()
		for n := 1; n <= inodes; n += 2 {
			h.make(1 + n%3%2)
		}
		h.check()
	}
}

// TestNewMemory holds R3: what All answers is the caller's, its spare capacity too.
func TestNewMemory(t *testing.T) {
	h := files(t, 3)
	a, b := h.s.All(), h.s.All()
	for _, l := range [][]api.Stat{a[:cap(a)], append(a, a...), append(a[:1], a...)} {
		for i := range l {
			l[i] = api.Stat{Ino: -1, Kind: -1, Links: -1, Opens: -1, Size: -1, Stored: -1}
		}
	}
	if want := h.m.all(); !slices.Equal(b, want) {
		t.Errorf("another answer of All became %+v", b)
	}
	h.check()
	before := slices.Clone(b)
	h.made(api.KFile, 11)
	h.must(h.write(1, 0, "abc"), api.OK)
	h.done(2, "Unlink")
	if !slices.Equal(b, before) {
		t.Errorf("an answer of All became %+v behind calls", b)
	}
	d, _ := h.read(3, 0, 10)
	h.must(h.write(3, 3, "XXXX"), api.OK)
	if d != "\x00\x00\x00abcd\x00\x00x" {
		t.Errorf("an answer of Read became %q behind a call", d)
	}
}

// TestOrderOfErrors holds which error is told where several apply.
func TestOrderOfErrors(t *testing.T) {
	h := hold(t, 2, 2, 1)
	h.made(api.KDir, 1)
	h.made(api.KFile, 2)
	h.must(h.write(2, 0, "ab"), api.OK)
	if _, e := h.make(3); e != api.ErrArg {
		t.Errorf("Make of no kind on a full store tells %d", e)
	}
	h.must(h.trunc(3, -1), api.ErrNoEnt)
	h.must(h.trunc(1, -1), api.ErrIsDir)
	h.must(h.trunc(1, full+1), api.ErrIsDir)
	h.must(h.write(3, -1, letters(full+1)), api.ErrNoEnt)
	h.must(h.write(1, -1, letters(full+1)), api.ErrIsDir)
	h.must(h.write(2, -1, letters(full+1)), api.ErrArg)
	h.must(h.write(2, 0, letters(full+1)), api.ErrFBig)
	h.must(h.write(2, 0, letters(full)), api.ErrNoSpc)
	for n, want := range []api.Errno{api.ErrNoEnt, api.ErrIsDir, api.ErrArg, api.ErrNoEnt} {
		if d, e := h.read(n, -1, -1); d != "" || e != want {
			t.Errorf("Read(%d, -1, -1) = %q, %d; want %d", n, d, e, want)
		}
	}
	h.check()
}

// TestErrorsChangeNothing holds that calls that tell an error, however often they are made, leave all as it was, and what may be stored too.
func TestErrorsChangeNothing(t *testing.T) {
	h := files(t, 4)
	for n := 11; n <= 12; n++ {
		h.made(api.KDir, n)
	}
	h.done(10, "Link", "Link")
	h.done(9, "Open", "Unlink")
	before := h.s.All()
	for range 3 {
		for _, kind := range append(slices.Clone(kinds), 1, 2) {
			h.make(kind)
		}
		h.must(h.count(10, "Link"), api.ErrMLink)
		h.must(h.count(9, "Unlink"), api.ErrArg)
		h.must(h.count(10, "Close"), api.ErrArg)
		for n := 1; n <= 9; n++ {
			h.must(h.write(n, 100, letters(full-100+1)), api.ErrFBig)
			h.must(h.write(n, -1, "a"), api.ErrArg)
			h.must(h.trunc(n, -1), api.ErrArg)
			h.must(h.trunc(n, full+1), api.ErrFBig)
			h.read(n, -1, 1)
			h.must(h.write(n, 40, letters(5)), api.ErrNoSpc)
			h.must(h.write(n, 1, letters(400)), api.ErrNoSpc)
		}
		if got := h.s.All(); !slices.Equal(got, before) {
			t.Fatalf("All() = %+v; want %+v", got, before)
		}
		h.check()
	}
	h.must(h.write(1, 9, "abcd"), api.OK)
	h.whole()
}

// TestNil holds R4: every call of a store that New has not returned.
func TestNil(t *testing.T) {
	bad, _ := inode.New(api.Caps{})
	for name, s := range map[string]*inode.Store{"nil": nil, "New's with an error": bad, "empty": new(inode.Store)} {
		for range 2 {
			silent(t, name, s)
		}
	}
}

func silent(t *testing.T, name string, s *inode.Store) {
	t.Helper()
	for _, n := range append(slices.Clone(great), 1, 2, 3, 4096) {
		for _, what := range names {
			if e := counts(s)[what](n); e != api.ErrNil {
				t.Errorf("%s: %s(%d) = %d; want ErrNil", name, what, n, e)
			}
		}
		if made, e := s.Make(n); made != 0 || e != api.ErrNil {
			t.Errorf("%s: Make(%d) = %d, %d; want ErrNil", name, n, made, e)
		}
		if x, e := s.Stat(n); x != (api.Stat{}) || e != api.ErrNil {
			t.Errorf("%s: Stat(%d) = %+v, %d; want ErrNil", name, n, x, e)
		}
		for _, a := range numbers {
			if d, e := s.Read(n, a, a); d != "" || e != api.ErrNil {
				t.Errorf("%s: Read(%d, %d, %d) = %q, %d; want ErrNil", name, n, a, a, d, e)
			}
			for _, d := range []string{"", "abc"} {
				if e := s.Write(n, a, d); e != api.ErrNil {
					t.Errorf("%s: Write(%d, %d, %q) = %d; want ErrNil", name, n, a, d, e)
				}
			}
			if e := s.Trunc(n, a); e != api.ErrNil {
				t.Errorf("%s: Trunc(%d, %d) = %d; want ErrNil", name, n, a, e)
			}
		}
	}
	if l := s.All(); len(l) != 0 {
		t.Errorf("%s: All() = %+v", name, l)
	}
}

// TestTwoStores holds that stores share nothing.
func TestTwoStores(t *testing.T) {
	a, b := hold(t, 3, 10, 2), hold(t, 3, 10, 2)
	r := rand.New(rand.NewSource(1))
	for range 3000 {
		h := []*held{a, b}[r.Intn(2)]
		h.mix(r)
		a.check()
		b.check()
	}
}

// pick is one of the list.
func pick[T any](r *rand.Rand, list []T) T {
	return list[r.Intn(len(list))]
}

// number is mostly one that an inode may have.
func (h *held) number(r *rand.Rand) int {
	if r.Intn(25) == 0 {
		return pick(r, great)
	}
	return r.Intn(min(h.m.caps.Inodes, 20)+2) + r.Intn(2)*r.Intn(2)
}

// place is mostly an offset where something is stored or might be, at either end of a file.
func place(r *rand.Rand) int64 {
	switch r.Intn(12) {
	case 0:
		return pick(r, numbers)
	case 1:
		return int64(full - r.Intn(20))
	case 2:
		return int64(r.Intn(300))
	}
	return int64(r.Intn(25))
}

// text is some bytes, mostly few.
func text(r *rand.Rand) string {
	b := make([]byte, r.Intn(pick(r, []int{1, 3, 3, 9, 9, 30})))
	for i := range b {
		b[i] = pick(r, []byte{0, 0, 'a', 'b', 0xff, byte(r.Intn(256))})
	}
	return string(b)
}

// mix makes one call, sometimes a wrong one.
func (h *held) mix(r *rand.Rand) {
	h.t.Helper()
	n := h.number(r)
	switch r.Intn(16) {
	case 0, 1:
		h.make(1 + r.Intn(2)*r.Intn(2))
	case 2:
		h.make(pick(r, kinds))
	case 3:
		h.count(n, "Link")
	case 4, 5:
		h.count(n, "Unlink")
	case 6:
		h.count(n, "Open")
	case 7, 8:
		h.count(n, "Close")
	case 9, 10, 11, 12:
		h.write(n, place(r), text(r))
	case 13:
		h.trunc(n, place(r))
	default:
		h.read(n, place(r), place(r))
	}
}

// TestRandom holds all promises for long runs of calls on stores of many sizes against the model: everything that can be seen is compared after every call.
func TestRandom(t *testing.T) {
	for i, c := range [][3]int{
		{1, 0, 1}, {1, 1, 1}, {1, 10, 2}, {1, 100, 3}, {2, 5, 1}, {2, 20, 2}, {2, 1000, 5}, {3, 12, 2}, {3, 40, 32768}, {4, 16777216, 3}, {5, 60, 2}, {8, 100, 4}, {12, 50, 1}, {20, 200, 2},
	} {
		r := rand.New(rand.NewSource(int64(i)))
		h := hold(t, c[0], c[1], c[2])
		for range 4000 {
			h.mix(r)
			h.check()
		}
		h.whole()
	}
}

// TestRandomEnd is the same with fewer comparisons, until all links and opens are gone: then all bytes and numbers may be used anew.
func TestRandomEnd(t *testing.T) {
	for i := range 40 {
		r := rand.New(rand.NewSource(int64(1000 + i)))
		inodes, bytes := 1+r.Intn(20), r.Intn(200)
		h := hold(t, inodes, bytes, 1+r.Intn(5))
		for j := range 600 {
			h.mix(r)
			if j%50 == 0 {
				h.whole()
			}
		}
		for _, x := range h.s.All() {
			for range x.Links {
				h.done(x.Ino, "Unlink")
			}
			for range x.Opens {
				h.done(x.Ino, "Close")
			}
			h.isGone(x.Ino)
		}
		if l := h.s.All(); len(l) != 0 {
			t.Fatalf("when everything is removed, All() = %+v", l)
		}
		for n := 1; n <= inodes; n++ {
			h.made(api.KFile, n)
		}
		h.must(h.write(inodes, 1, letters(bytes+1)), api.ErrNoSpc)
		h.must(h.write(inodes, 1, letters(bytes)), api.OK)
		h.check()
	}
}
