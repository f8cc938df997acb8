package desc_test

import (
	"math/rand"
	"slices"
	"strings"
	"testing"
	"unsafe"

	"hayward/api"
	"hayward/desc"
	"hayward/inode"
	"hayward/names"
)

// The signatures are part of the chapter.
var (
	_ func(s *inode.Store, t *names.Tree, c api.Caps) (*desc.Table, api.Errno)      = desc.New
	_ func(d *desc.Table, pid int) api.Errno                                        = (*desc.Table).Add
	_ func(d *desc.Table, from, to int) api.Errno                                   = (*desc.Table).Clone
	_ func(d *desc.Table, pid int) api.Errno                                        = (*desc.Table).Drop
	_ func(d *desc.Table, pid int, p string, flags int) (int, api.Errno)            = (*desc.Table).Open
	_ func(d *desc.Table, pid, fd int) api.Errno                                    = (*desc.Table).Close
	_ func(d *desc.Table, pid, fd int) (int, api.Errno)                             = (*desc.Table).Dup
	_ func(d *desc.Table, pid, fd int, n int64) (string, api.Errno)                 = (*desc.Table).Read
	_ func(d *desc.Table, pid, fd int, data string) (int64, api.Errno)              = (*desc.Table).Write
	_ func(d *desc.Table, pid, fd int, by int64, whence int) (n int64, e api.Errno) = (*desc.Table).Seek
	_ func(d *desc.Table, pid, fd int, size int64) api.Errno                        = (*desc.Table).Trunc
	_ func(d *desc.Table, pid, fd int) (api.Stat, api.Errno)                        = (*desc.Table).Stat
	_ func(d *desc.Table) []int                                                     = (*desc.Table).Procs
	_ func(d *desc.Table, pid int) []api.Fd                                         = (*desc.Table).Fds
)

// The flags, for short.
const (
	rd = api.ORead
	wr = api.OWrite
	cr = api.OCreate
	ex = api.OExcl
	tr = api.OTrunc
	ap = api.OAppend
)

var (
	// numbers are those at which something changes, for sizes, offsets and counts of bytes alike.
	numbers = []int64{least, least + 1, -1 << 32, -full - 1, -full, -full + 1, -6, -5, -4, -3, -2, -1, 0, 1, 2, 3, 4, 5, 6, 9, full - 6, full - 5, full - 4, full - 3, full - 2, full - 1, full, full + 1, 1 << 32, 1<<32 + 5, greatest - full, greatest - 5, greatest - 1, greatest}
	// great are numbers that no process and no descriptor has.
	great = []int{least, least + 1, -1 << 32, 1 - 1<<32, -65, -64, -2, -1, 64, 65, 1024, 1 << 16, 1 << 32, 1<<32 + 1, 1<<32 + 2, 1<<62 + 1, greatest - 1, greatest}
	// wrong are texts that are no paths, with what is told of them.
	wrong = map[string]api.Errno{
		"": api.ErrNoEnt, "\x00": api.ErrArg, "f\x00": api.ErrArg, "d/\x00/x": api.ErrArg, strings.Repeat("a", 33): api.ErrNameLong,
		"d/" + strings.Repeat("é", 17): api.ErrNameLong, strings.Repeat("/", 257): api.ErrNameLong, strings.Repeat("a/", 128) + "a": api.ErrNameLong,
	}
)

// letters is so many bytes, each of which differs from those around it.
func letters(n int) string {
	return strings.Repeat("abcdefghijklmnopqrstuvwxyz012345", n/32+1)[:n]
}

// opened opens a file that must get the descriptor fd.
func (h *held) opened(pid int, p string, flags, fd int) {
	h.t.Helper()
	if got, e := h.open(pid, p, flags); got != fd || e != api.OK {
		h.t.Fatalf("Open(%d, %q, %d) = %d, %d; want %d", pid, p, flags, got, e, fd)
	}
}

// refused demands that a file isn't opened, and that nothing has changed then.
func (h *held) refused(pid int, p string, flags int, want api.Errno) {
	h.t.Helper()
	before := h.m.text()
	if fd, e := h.open(pid, p, flags); fd != 0 || e != want {
		h.t.Fatalf("Open(%d, %q, %d) = %d, %d; want error %d", pid, p, flags, fd, e, want)
	}
	h.check()
	if got := h.m.text(); got != before {
		h.t.Fatalf("Open(%d, %q, %d) has changed %s into %s", pid, p, flags, before, got)
	}
}

// duped demands which descriptor becomes another one's duplicate.
func (h *held) duped(pid, fd, want int) {
	h.t.Helper()
	if got, e := h.dup(pid, fd); got != want || e != api.OK {
		h.t.Fatalf("Dup(%d, %d) = %d, %d; want %d", pid, fd, got, e, want)
	}
}

// reads demands what is read.
func (h *held) reads(pid, fd int, n int64, want string) {
	h.t.Helper()
	if got, e := h.read(pid, fd, n); got != want || e != api.OK {
		h.t.Fatalf("Read(%d, %d, %d) = %.80q, %d; want %.80q", pid, fd, n, got, e, want)
	}
}

// written writes what must be written whole.
func (h *held) written(pid, fd int, data string) {
	h.t.Helper()
	if n, e := h.write(pid, fd, data); n != int64(len(data)) || e != api.OK {
		h.t.Fatalf("Write(%d, %d, %.80q) = %d, %d", pid, fd, data, n, e)
	}
}

// sought demands to where an open file is moved.
func (h *held) sought(pid, fd int, by int64, whence int, want int64) {
	h.t.Helper()
	if got, e := h.seek(pid, fd, by, whence); got != want || e != api.OK {
		h.t.Fatalf("Seek(%d, %d, %d, %d) = %d, %d; want %d", pid, fd, by, whence, got, e, want)
	}
}

// fds demands a process's descriptors, by numbers of the test itself.
func (h *held) fds(pid int, want ...api.Fd) {
	h.t.Helper()
	if got := h.d.Fds(pid); !slices.Equal(got, want) {
		h.t.Fatalf("Fds(%d) = %+v; want %+v", pid, got, want)
	}
}

// counts demands how many links and opens an inode has.
func (h *held) counts(n, links, opens int) {
	h.t.Helper()
	if x, e := h.s.Stat(n); x.Links != links || x.Opens != opens || e != api.OK {
		h.t.Fatalf("inode %d is %+v, %d; want Links %d, Opens %d", n, x, e, links, opens)
	}
}

// isGone demands that the store has no inode n.
func (h *held) isGone(n int) {
	h.t.Helper()
	if x, e := h.s.Stat(n); e != api.ErrNoEnt {
		h.t.Fatalf("inode %d is %+v, %d; want none", n, x, e)
	}
}

// young is a table with process 1, and a file f, as inode 2, that has five bytes.
func young(t *testing.T, c api.Caps) *held {
	t.Helper()
	h := hold(t, c)
	h.store(h.make("/f", api.KFile), 0, "hello")
	h.must(h.add(1), api.OK)
	return h
}

// town is a table in which there is something of every sort. Files: /f (2, also /d/k), /d/g (4, with a hole), /d/e/z (6, empty); directories: /d (3), /d/e (5), /v (7, empty). Processes: 1 and its clone 2 have three open files, 4 has one, 7 has none; 4 has a file that has no name (8). At most 6 open files, of which two are left.
func town(t *testing.T) *held {
	t.Helper()
	h := young(t, caps(5, 6))
	h.make("/d", api.KDir)
	h.store(h.make("/d/g", api.KFile), 2, "xyz")
	h.make("/d/e", api.KDir)
	h.make("/d/e/z", api.KFile)
	h.make("/v", api.KDir)
	h.link("/f", "/d/k")
	h.opened(1, "f", rd+wr, 0)
	h.duped(1, 0, 1)
	h.opened(1, "d/g", rd, 2)
	h.opened(1, "d/k", wr+ap, 3)
	h.must(h.clone(1, 2), api.OK)
	h.must(h.close(1, 1), api.OK)
	h.must(h.add(7), api.OK)
	h.must(h.add(4), api.OK)
	h.opened(4, "n", rd+wr+cr, 0)
	h.remove("/n")
	h.duped(4, 0, 1)
	h.must(h.close(4, 0), api.OK)
	h.written(4, 1, "none")
	h.reads(1, 0, 2, "he")
	return h
}

// TestExamples are the chapter's, one row after the other.
func TestExamples(t *testing.T) {
	h := young(t, api.Caps{Inodes: 8, Bytes: 100, Links: 3, Files: 4, Opens: 6})
	h.opened(1, "f", rd, 0)
	h.duped(1, 0, 1)
	h.reads(1, 0, 2, "he")
	h.reads(1, 1, 9, "llo")
	h.must(h.clone(1, 2), api.OK)
	h.must(h.close(1, 0), api.OK)
	h.sought(2, 0, -1, api.SeekEnd, 4)
	h.reads(1, 1, 5, "o")
	h.opened(1, "g", wr+cr, 0)
	h.written(1, 0, "abc")
	if d, e := h.read(1, 0, 1); d != "" || e != api.ErrBadF {
		t.Errorf("Read of what is open for writing = %q, %d", d, e)
	}
	h.refused(1, "f", ex, api.ErrArg)
	h.refused(1, "f", rd+cr+ex, api.ErrExist)
	h.must(h.drop(3), api.ErrSrch)
	h.fds(1, api.Fd{Fd: 0, Ino: 3, Offset: 3, Flags: wr + cr, Refs: 1}, api.Fd{Fd: 1, Ino: 2, Offset: 5, Flags: rd, Refs: 3})
	h.fds(2, api.Fd{Fd: 0, Ino: 2, Offset: 5, Flags: rd, Refs: 3}, api.Fd{Fd: 1, Ino: 2, Offset: 5, Flags: rd, Refs: 3})
	h.check()
	h.whole()
}

// TestNew holds P13.1 at each capacity's bounds, whatever the other fields are.
func TestNew(t *testing.T) {
	s, _ := inode.New(api.Caps{Inodes: 3, Links: 1})
	x, _ := names.New(s)
	before := s.All()
	for _, files := range append([]int{0, 1, 2, 63, 64, 66, 128}, great...) {
		for _, opens := range append([]int{0, 1, 2, 63, 1023, 1024, 1025, 2048}, great...) {
			for _, other := range []int{least, -1, 0, 1, 5000, greatest} {
				c := api.Caps{Inodes: other, Bytes: other, Links: other, Files: files, Opens: opens, Procs: other, Frames: other}
				want := api.OK
				if files < 1 || files > 64 || opens < 1 || opens > 1024 {
					want = api.ErrArg
				}
				d, e := desc.New(s, x, c)
				if e != want || (d == nil) != (want != api.OK) {
					t.Fatalf("New(%+v) = %v, %d; want error %d", c, d, e, want)
				}
				if want == api.OK && (len(d.Procs()) != 0 || len(d.Fds(1)) != 0 || d.Drop(1) != api.ErrSrch) {
					t.Fatalf("New(%+v) has processes %v", c, d.Procs())
				}
			}
		}
	}
	none := func(s *inode.Store, x *names.Tree) {
		t.Helper()
		for _, c := range []api.Caps{{}, caps(4, 6), caps(65, 6), caps(4, 1025), caps(-1, 0)} {
			if d, e := desc.New(s, x, c); d != nil || e != api.ErrNil {
				t.Errorf("New(%v, %v, %+v) = %v, %d; want ErrNil", s, x, c, d, e)
			}
		}
	}
	for _, noS := range []*inode.Store{nil, {}} {
		none(noS, x)
		for _, noX := range []*names.Tree{nil, {}} {
			none(noS, noX)
			none(s, noX)
		}
	}
	if l, e := x.List("/"); !slices.Equal(s.All(), before) || len(l) != 0 || e != api.OK {
		t.Errorf("New has made %v, %v", s.All(), l)
	}
}

// TestAdd holds what P13.2 says of Add.
func TestAdd(t *testing.T) {
	h := young(t, caps(2, 2))
	for _, pid := range []int{least, least + 1, -1 << 32, 1 - 1<<32, -2, -1, 0} {
		h.must(h.add(pid), api.ErrArg)
	}
	h.check()
	h.opened(1, "f", rd, 0)
	for _, pid := range []int{2, 3, 64, 65, 1025, 1 << 16, 1 << 32, 1<<32 + 1, greatest - 1, greatest, 40, 39} {
		h.must(h.add(pid), api.OK)
		h.check()
		h.fds(pid)
		for range 2 {
			h.must(h.add(pid), api.ErrExist)
			h.must(h.add(1), api.ErrExist)
		}
	}
	h.opened(greatest, "f", rd, 0)
	h.must(h.add(greatest), api.ErrExist)
	h.check()
	h.must(h.drop(1), api.OK)
	h.must(h.add(1), api.OK)
	h.fds(1)
	h.check()
}

// TestManyProcesses holds that processes have no capacity, and how they are listed.
func TestManyProcesses(t *testing.T) {
	h := young(t, caps(1, 1))
	h.opened(1, "f", rd, 0)
	for i := range 3000 {
		pid := 2 + i*7919%3000
		if i%2 == 0 {
			h.must(h.add(pid), api.OK)
		} else {
			h.must(h.clone(1, pid), api.OK)
		}
	}
	h.fds(1, api.Fd{Fd: 0, Ino: 2, Flags: rd, Refs: 1501})
	h.check()
	for pid := 1; pid <= 3001; pid += 3 {
		h.must(h.drop(pid), api.OK)
	}
	h.check()
	h.whole()
}

// TestClone holds what P13.2 says of Clone, for processes that are there, that are not, and for one and the same.
func TestClone(t *testing.T) {
	pids := append([]int{0, 1, 2, 3, 4, 5, 7, 8}, great...)
	for _, from := range pids {
		for _, to := range pids {
			h := town(t)
			before := h.m.text()
			want := api.OK
			switch {
			case !slices.Contains([]int{1, 2, 4, 7}, from):
				want = api.ErrSrch
			case to < 1:
				want = api.ErrArg
			case slices.Contains([]int{1, 2, 4, 7}, to):
				want = api.ErrExist
			}
			h.must(h.clone(from, to), want)
			h.check()
			if want != api.OK && h.m.text() != before {
				t.Errorf("Clone(%d, %d) has changed %s into %s", from, to, before, h.m.text())
			}
		}
	}
	h := town(t)
	h.must(h.clone(2, 3), api.OK)
	for _, pid := range []int{2, 3} {
		h.fds(pid,
			api.Fd{Fd: 0, Ino: 2, Offset: 2, Flags: rd + wr, Refs: 5}, api.Fd{Fd: 1, Ino: 2, Offset: 2, Flags: rd + wr, Refs: 5},
			api.Fd{Fd: 2, Ino: 4, Flags: rd, Refs: 3}, api.Fd{Fd: 3, Ino: 2, Flags: wr + ap, Refs: 3})
	}
}

// TestCloneStandsAlone holds that a clone shares open files, but not which descriptors it has, with the process that it came from, from either side.
func TestCloneStandsAlone(t *testing.T) {
	for _, pid := range []int{1, 9} {
		other := 10 - pid
		h := young(t, caps(4, 4))
		h.opened(1, "f", rd+wr, 0)
		h.opened(1, "f", rd, 1)
		h.must(h.clone(1, 9), api.OK)
		h.must(h.close(pid, 0), api.OK)
		h.reads(other, 0, 2, "he")
		h.reads(other, 1, 3, "hel")
		h.reads(pid, 1, 1, "l")
		h.opened(pid, "f", wr, 0)
		h.written(pid, 0, "J")
		h.reads(other, 0, 9, "llo")
		h.duped(other, 1, 2)
		h.fds(pid, api.Fd{Fd: 0, Ino: 2, Offset: 1, Flags: wr, Refs: 1}, api.Fd{Fd: 1, Ino: 2, Offset: 4, Flags: rd, Refs: 3})
		h.check()
		h.must(h.drop(pid), api.OK)
		h.check()
		h.whole()
		h.sought(other, 0, 0, api.SeekSet, 0)
		h.reads(other, 0, 9, "Jello")
		h.fds(other, api.Fd{Fd: 0, Ino: 2, Offset: 5, Flags: rd + wr, Refs: 1}, api.Fd{Fd: 1, Ino: 2, Offset: 4, Flags: rd, Refs: 2}, api.Fd{Fd: 2, Ino: 2, Offset: 4, Flags: rd, Refs: 2})
	}
}

// TestDrop holds what P13.2 says of Drop: a process goes with its descriptors, and with them goes what nobody else has open.
func TestDrop(t *testing.T) {
	h := town(t)
	for _, pid := range append([]int{0, 3, 5, 8}, great...) {
		h.must(h.drop(pid), api.ErrSrch)
	}
	h.check()
	h.counts(2, 2, 2)
	h.counts(4, 1, 1)
	h.counts(8, 0, 1)
	h.must(h.drop(4), api.OK)
	h.isGone(8)
	h.must(h.drop(7), api.OK)
	h.must(h.drop(1), api.OK)
	h.counts(2, 2, 2) // process 2 has them open
	h.counts(4, 1, 1)
	h.check()
	h.must(h.drop(2), api.OK)
	h.counts(2, 2, 0)
	h.counts(4, 1, 0)
	h.check()
	h.whole()
	for _, pid := range []int{1, 2, 4, 7} {
		h.must(h.drop(pid), api.ErrSrch)
		h.must(h.add(pid), api.OK)
		h.fds(pid)
	}
	for fd := range 5 {
		h.opened(2, "f", rd, fd)
	}
	h.opened(1, "f", rd, 0) // six open files again
	h.refused(1, "f", rd, api.ErrNFile)
}

// TestDropAll holds that a process's descriptors are all closed, whichever they are, and that as many files may be opened anew.
func TestDropAll(t *testing.T) {
	for kept := range 1 << 5 {
		h := young(t, caps(5, 5))
		for fd := range 5 {
			h.opened(1, string(rune('a'+fd)), wr+cr, fd)
			h.remove("/" + string(rune('a'+fd)))
		}
		for fd := range 5 {
			if kept>>fd&1 == 0 {
				h.must(h.close(1, fd), api.OK)
			}
		}
		h.check()
		h.must(h.drop(1), api.OK)
		h.check()
		h.whole()
		h.must(h.add(1), api.OK)
		for fd := range 5 {
			h.opened(1, "f", rd, fd)
		}
		h.check()
	}
}

// TestFlags holds which flags are valid: every sum from -1 to 64, and greater ones with the same low bits.
func TestFlags(t *testing.T) {
	var got []int
	for flags := -1; flags <= 64; flags++ {
		for _, p := range []string{"f", "new"} {
			h := young(t, caps(2, 2))
			fd, e := h.open(1, p, flags)
			h.check()
			if e == api.ErrArg {
				h.fds(1)
			} else if p == "f" {
				got = append(got, flags)
			}
			if e == api.OK {
				h.fds(1, api.Fd{Fd: fd, Ino: h.m.ways["/"+p].ino, Flags: flags, Refs: 1})
			}
		}
	}
	if want := slices.Sorted(slices.Values(sound)); !slices.Equal(got, want) {
		t.Errorf("valid are %v; want %v", got, want)
	}
	h := young(t, caps(2, 2))
	for _, more := range []int{64, 128, 1 << 16, 1 << 31, 1 << 32, 1 << 62, -64, -128, least} {
		for low := range 64 {
			h.refused(1, "f", low+more, api.ErrArg)
			h.refused(1, "new", low+more, api.ErrArg)
		}
	}
	for _, flags := range []int{least, -63, -2, -1, greatest, greatest - 1} {
		h.refused(1, "f", flags, api.ErrArg)
	}
}

// paths are of files, of directories, of what is not there and may be made or not, and no paths at all.
func paths() []string {
	out := strings.Fields("f /f d/k ./d/../f d/g d/e/z d/e/../g f/ f/. f/.. f/x d/g/ / . .. ./ d d/ /d/. d/e d/e/.. v v/ v/../ n /n d/n d/e/n v/n v/../n n/ n/. n/.. n/x d/n/ d/n/x d/f d/k/x")
	for p := range wrong {
		out = append(out, p)
	}
	slices.Sort(out)
	return out
}

// TestOpen opens each of many paths with every sum of flags from -1 to 64, by processes that may open it and by some that may not.
func TestOpen(t *testing.T) {
	worlds := map[string]func(*testing.T) *held{
		"some left": town,
		"no inodes left": func(t *testing.T) *held {
			h := town(t)
			for _, way := range []string{"/a", "/b", "/c", "/h"} {
				h.make(way, 1+len(h.m.things)%2)
			}
			h.refused(1, "n", rd+cr, api.ErrNoSpc)
			return h
		},
		"no open files left": func(t *testing.T) *held {
			h := town(t)
			h.opened(4, "f", rd, 0)
			h.opened(4, "f", rd, 2)
			h.refused(1, "f", rd, api.ErrNFile)
			return h
		},
		"no descriptors left": func(t *testing.T) *held {
			h := town(t)
			for range 4 {
				h.dup(4, 1)
				h.dup(1, 0)
			}
			h.refused(1, "f", rd, api.ErrMFile)
			return h
		},
		"neither left": func(t *testing.T) *held {
			h := town(t)
			h.opened(4, "f", rd, 0)
			h.opened(4, "f", rd, 2)
			for range 4 {
				h.dup(4, 1)
				h.dup(1, 0)
			}
			h.refused(1, "f", rd, api.ErrMFile)
			return h
		},
	}
	for name, world := range worlds {
		t.Run(name, func(t *testing.T) {
			h := world(t)
			for _, p := range paths() {
				for flags := -1; flags <= 64; flags++ {
					for _, pid := range []int{1, 7, 3} {
						before := h.m.text()
						_, e := h.open(pid, p, flags)
						if h.m.text() == before {
							continue
						}
						h.must(e, api.OK)
						h.check()
						h.whole()
						h = world(t)
					}
				}
				h.check()
			}
		})
	}
}

// TestOpenOrder holds which error is told where several apply, by cases that are written out, and that nothing has changed then.
func TestOpenOrder(t *testing.T) {
	h := town(t)
	for range 4 {
		h.dup(4, 1)
	}
	for p := range wrong {
		h.refused(3, p, 0, api.ErrSrch)
		h.refused(4, p, ex, api.ErrArg)
		h.refused(4, p, rd, api.ErrMFile)
		h.refused(7, p, 64, api.ErrArg)
		h.refused(7, p, rd, wrong[p])
		h.refused(7, p, rd+cr, wrong[p])
		h.refused(7, p, rd+wr+cr+ex+tr, wrong[p])
	}
	for _, c := range []struct {
		paths string
		flags int
		want  api.Errno
	}{
		{"f d/g / d d/ . .. v/../d/e", rd + cr + ex, api.ErrExist},
		{"f d/g / d d/ . .. v/../d/e", wr + cr + ex + tr, api.ErrExist},
		{"/ d d/ . .. v v/../d/e", rd, api.ErrIsDir},
		{"/ d d/ . .. v v/../d/e", wr, api.ErrIsDir},
		{"/ d d/ . .. v v/../d/e", wr + cr + tr + ap, api.ErrIsDir},
		{"f/ f/. f/.. f/x d/k/ d/e/z/../z", rd, api.ErrNotDir},
		{"f/ f/. f/.. f/x d/k/ d/e/z/../z", wr + cr + ex + tr, api.ErrNotDir},
		{"n n/ n/. n/.. n/x d/n d/n/ ../n n/../f", rd, api.ErrNoEnt},
		{"n n/ n/. n/.. n/x d/n d/n/ ../n n/../f", wr + tr + ap, api.ErrNoEnt},
		{"n/. n/.. n/x n/x/ d/n/x n/../f", rd + cr, api.ErrNoEnt},
		{"n/. n/.. n/x n/x/ d/n/x n/../f", wr + cr + ex + tr, api.ErrNoEnt},
		{"n/ d/n/ v//n// ./n/", rd + cr, api.ErrIsDir},
		{"n/ d/n/ v//n// ./n/", wr + cr + ex + ap, api.ErrIsDir},
	} {
		for _, p := range strings.Fields(c.paths) {
			h.refused(7, p, c.flags, c.want)
		}
	}
	for _, way := range []string{"/a", "/b", "/c", "/h"} {
		h.make(way, api.KFile)
	}
	h.refused(7, "n/", rd+cr, api.ErrIsDir)
	h.refused(7, "n/x", rd+cr, api.ErrNoEnt)
	for _, p := range []string{"n", "d/n", "v/../n"} {
		h.refused(7, p, rd, api.ErrNoEnt)
		h.refused(7, p, rd+cr, api.ErrNoSpc)
		h.refused(7, p, wr+cr+ex+tr, api.ErrNoSpc)
	}
	h.opened(7, "f", rd+cr, 0) // what is there is opened, though nothing can be made
	h.opened(7, "f", rd+cr, 1)
	for p := range wrong {
		h.refused(3, p, 0, api.ErrSrch)
		h.refused(7, p, 0, api.ErrArg)
		h.refused(4, p, rd, api.ErrMFile)
		h.refused(7, p, rd, api.ErrNFile)
	}
	for _, p := range []string{"f", "d", "n", "n/", "f/x", "/"} {
		h.refused(7, p, rd, api.ErrNFile)
		h.refused(7, p, wr+cr+ex+tr, api.ErrNFile)
		h.refused(7, p, wr+cr+tr, api.ErrNFile)
	}
}

// TestMade holds that OCreate makes a file that is not there, and opens one that is; that OExcl opens none that is; and that OTrunc alone cuts off what was there, for all who have it open.
func TestMade(t *testing.T) {
	for _, flags := range sound {
		h := young(t, caps(4, 4))
		h.opened(1, "f", rd, 0)
		h.reads(1, 0, 3, "hel")
		switch {
		case has(flags, ex):
			h.refused(1, "f", flags, api.ErrExist)
			h.counts(2, 1, 1)
			h.reads(1, 0, 9, "lo")
		default:
			h.opened(1, "f", flags, 1)
			h.counts(2, 1, 2)
			x, _ := h.stat(1, 1)
			if has(flags, tr) {
				h.reads(1, 0, 9, "")
				h.fds(1, api.Fd{Fd: 0, Ino: 2, Offset: 3, Flags: rd, Refs: 1}, api.Fd{Fd: 1, Ino: 2, Flags: flags, Refs: 1})
			} else {
				h.reads(1, 0, 9, "lo")
			}
			if want := map[bool]int64{true: 0, false: 5}[has(flags, tr)]; x.Size != want || x.Stored != want {
				t.Errorf("opened with %d, the file is %+v", flags, x)
			}
		}
		h.check()
		if !has(flags, cr) {
			h.refused(1, "new", flags, api.ErrNoEnt)
			continue
		}
		fd, e := h.open(1, "./new", flags)
		if x, _ := h.stat(1, fd); e != api.OK || x != (api.Stat{Ino: 3, Kind: api.KFile, Links: 1, Opens: 1}) {
			t.Errorf("made with %d, the file is %+v, %d", flags, x, e)
		}
		if n, e := h.x.Find("new"); n != 3 || e != api.OK {
			t.Errorf("Find of what was made with %d = %d, %d", flags, n, e)
		}
		h.check()
		h.whole()
	}
}

// TestTruncNotAtOpen holds that a file is cut off when it is opened, and never again.
func TestTruncNotAtOpen(t *testing.T) {
	h := young(t, caps(4, 4))
	h.opened(1, "f", rd+wr+tr, 0)
	h.written(1, 0, "abcd")
	h.duped(1, 0, 1)
	h.must(h.clone(1, 2), api.OK)
	h.written(2, 1, "ef")
	h.sought(2, 1, 0, api.SeekSet, 0)
	h.reads(1, 0, 9, "abcdef")
	h.check()
}

// TestFull holds that bytes that are cut off by opening may be stored anew, and that opening needs no bytes.
func TestFull(t *testing.T) {
	h := young(t, api.Caps{Inodes: 4, Bytes: 5, Links: 1, Files: 4, Opens: 4})
	h.opened(1, "g", wr+cr, 0)
	if n, e := h.write(1, 0, "x"); n != 0 || e != api.ErrNoSpc {
		t.Errorf("Write in a full store = %d, %d", n, e)
	}
	h.opened(1, "f", wr+tr, 1)
	h.written(1, 0, "world")
	h.check()
}

// TestLowest holds that the lowest descriptor that is unused is given, whichever were closed, and by Open and Dup alike.
func TestLowest(t *testing.T) {
	const files = 6
	for gone := range 1 << files {
		for _, by := range []string{"open", "dup", "both"} {
			h := young(t, caps(files, files+2))
			h.must(h.add(2), api.OK)
			h.opened(2, "f", wr, 0)
			for fd := range files {
				h.opened(1, "f", rd, fd)
			}
			one := -1 // one that stays
			for fd := range files {
				if gone>>fd&1 == 1 {
					h.must(h.close(1, fd), api.OK)
				} else {
					one = fd
				}
			}
			for fd := range files {
				switch {
				case gone>>fd&1 == 0:
				case by == "open", one < 0, by == "both" && fd%2 == 0:
					h.opened(1, "f", rd+wr, fd)
				default:
					h.duped(1, one, fd)
				}
			}
			h.check()
			h.refused(1, "f", rd, api.ErrMFile)
			if fd, e := h.dup(1, 3); fd != 0 || e != api.ErrMFile {
				t.Errorf("Dup of a process that has all = %d, %d", fd, e)
			}
			h.opened(2, "f", rd, 1)
		}
	}
}

// TestFiles holds that a process has as many descriptors as the capacity says, whatever others have, and however many open files there are.
func TestFiles(t *testing.T) {
	for _, files := range []int{1, 2, 3, 63, 64} {
		h := young(t, caps(files, 1))
		h.opened(1, "f", rd, 0)
		for fd := 1; fd < files; fd++ {
			h.duped(1, fd-1, fd)
		}
		for _, fd := range []int{0, files - 1} {
			if got, e := h.dup(1, fd); got != 0 || e != api.ErrMFile {
				t.Errorf("Dup(1, %d) of %d = %d, %d", fd, files, got, e)
			}
		}
		h.refused(1, "f", rd, api.ErrMFile)
		h.must(h.clone(1, 2), api.OK)
		h.must(h.add(3), api.OK)
		h.refused(3, "f", rd, api.ErrNFile)
		h.check()
		for fd := range files {
			h.must(h.close(1, fd), api.OK)
		}
		h.refused(1, "f", rd, api.ErrNFile)
		h.must(h.drop(2), api.OK)
		h.opened(3, "f", rd, 0)
		h.check()
		h.whole()
	}
}

// TestOpens holds that there are as many open files as the capacity says, of all processes together, whatever they are of, and that those with many descriptors count once.
func TestOpens(t *testing.T) {
	for _, opens := range []int{1, 2, 63, 64, 65, 1023, 1024} {
		h := young(t, caps(64, opens))
		pid := func(i int) int { return 1 + i/60 }
		for i := range opens {
			if pid(i) > 1 && i%60 == 0 {
				h.must(h.add(pid(i)), api.OK)
			}
			h.opened(pid(i), []string{"f", "g"}[i%2], rd+cr, i%60)
		}
		h.duped(1, 0, min(opens, 60))
		h.must(h.clone(1, 999), api.OK)
		h.refused(1, "f", rd, api.ErrNFile)
		h.refused(999, "new", rd+cr, api.ErrNFile)
		h.check()
		h.must(h.close(1, 0), api.OK)
		h.must(h.close(999, 0), api.OK)
		h.refused(1, "f", rd, api.ErrNFile) // the duplicates refer to it still
		h.must(h.close(1, min(opens, 60)), api.OK)
		h.refused(1, "f", rd, api.ErrNFile)
		h.must(h.close(999, min(opens, 60)), api.OK)
		h.opened(999, "f", rd, 0)
		h.refused(1, "f", rd, api.ErrNFile)
		h.check()
		h.whole()
	}
}

// TestFailuresCount holds that a call of Open that tells an error takes no room from those that follow.
func TestFailuresCount(t *testing.T) {
	h := young(t, caps(2, 2))
	for range 5 {
		for _, p := range []string{"none", "f/x", "/", "", "f/"} {
			h.open(1, p, rd)
			h.open(1, p, wr+tr)
		}
		h.open(1, "f", rd+cr+ex)
		h.open(1, "none/", rd+cr)
		h.open(1, "f", 0)
		h.open(5, "f", rd)
	}
	h.check()
	h.opened(1, "f", rd, 0)
	h.opened(1, "f", rd, 1)
	h.refused(1, "f", rd, api.ErrMFile)
}

// each makes a call of every kind with a descriptor: it tells which error.
func (h *held) each(pid, fd int) map[string]api.Errno {
	h.t.Helper()
	out := map[string]api.Errno{"Close": h.close(pid, fd), "Trunc": h.trunc(pid, fd, 3)}
	_, out["Dup"] = h.dup(pid, fd)
	_, out["Read"] = h.read(pid, fd, 1)
	_, out["Write"] = h.write(pid, fd, "x")
	_, out["Seek"] = h.seek(pid, fd, 0, api.SeekSet)
	_, out["Stat"] = h.stat(pid, fd)
	return out
}

// TestStrange holds that each call is told of a process that is not there, and then of a descriptor that it does not have.
func TestStrange(t *testing.T) {
	h := town(t)
	before := h.m.text()
	fds := append([]int{0, 1, 2, 3, 4, 5, 6}, great...)
	for _, pid := range append([]int{0, 3, 5, 6}, great...) {
		for _, fd := range fds {
			for call, e := range h.each(pid, fd) {
				if e != api.ErrSrch {
					t.Errorf("%s(%d, %d) tells %d; want ErrSrch", call, pid, fd, e)
				}
			}
		}
	}
	for pid, have := range map[int][]int{1: {0, 2, 3}, 2: {0, 1, 2, 3}, 4: {1}, 7: nil} {
		for _, fd := range fds {
			if slices.Contains(have, fd) {
				continue
			}
			for call, e := range h.each(pid, fd) {
				if e != api.ErrBadF {
					t.Errorf("%s(%d, %d) tells %d; want ErrBadF", call, pid, fd, e)
				}
			}
		}
	}
	h.check()
	if h.m.text() != before {
		t.Errorf("%s has become %s", before, h.m.text())
	}
}

// TestClose holds what P13.4 says of Close: a descriptor goes once, and the last one ends the open file.
func TestClose(t *testing.T) {
	h := young(t, caps(4, 3))
	h.opened(1, "f", rd, 0)
	h.duped(1, 0, 1)
	h.duped(1, 0, 2)
	h.must(h.clone(1, 2), api.OK)
	for i, c := range [][2]int{{1, 1}, {2, 0}, {2, 2}, {1, 0}, {1, 2}, {2, 1}} {
		h.counts(2, 1, 1)
		h.must(h.close(c[0], c[1]), api.OK)
		h.must(h.close(c[0], c[1]), api.ErrBadF)
		h.check()
		h.whole()
		if left := h.m.shares(); len(left) > 0 {
			for _, n := range left {
				if n != 5-i {
					t.Errorf("%d descriptors refer to the file; want %d", n, 5-i)
				}
			}
		}
	}
	h.counts(2, 1, 0)
	h.fds(1)
	h.fds(2)
	h.must(h.close(1, 0), api.ErrBadF)
}

// TestDup holds what P13.4 says of Dup: which errors come first, and that a duplicate is as good as what it came from.
func TestDup(t *testing.T) {
	h := young(t, caps(3, 1))
	h.opened(1, "f", rd+wr, 0)
	h.duped(1, 0, 1)
	h.duped(1, 1, 2)
	for _, fd := range append([]int{3, 4}, great...) {
		if got, e := h.dup(1, fd); got != 0 || e != api.ErrBadF {
			t.Errorf("Dup(1, %d) of a process that has all = %d, %d", fd, got, e)
		}
		if got, e := h.dup(2, fd); got != 0 || e != api.ErrSrch {
			t.Errorf("Dup(2, %d) = %d, %d", fd, got, e)
		}
	}
	for fd := range 3 {
		if got, e := h.dup(1, fd); got != 0 || e != api.ErrMFile {
			t.Errorf("Dup(1, %d) of a process that has all = %d, %d", fd, got, e)
		}
	}
	h.reads(1, 2, 1, "h")
	h.must(h.close(1, 0), api.OK)
	h.written(1, 1, "E")
	h.reads(1, 2, 1, "l")
	h.duped(1, 2, 0)
	h.reads(1, 0, 9, "lo")
	h.check()
	h.whole()
}

// TestRead holds what P13.5 says of Read: before, at and behind the file's end, with all counts.
func TestRead(t *testing.T) {
	h := young(t, caps(4, 4))
	h.opened(1, "f", rd+wr, 0)
	h.opened(1, "g", rd+wr+cr, 1)
	h.must(h.trunc(1, 1, full), api.OK)
	for _, from := range []int64{0, 1, 4, 5, 6, 100, full - 1, full} {
		for _, n := range numbers {
			h.sought(1, 0, from, api.SeekSet, from)
			d, e := h.read(1, 0, n)
			want, we := "", api.OK
			switch {
			case n < 0:
				we = api.ErrArg
			case from < 5:
				want = "hello"[from:min(5, from+min(n, 5))]
			}
			if d != want || e != we {
				t.Errorf("Read of %d at %d = %q, %d; want %q, %d", n, from, d, e, want, we)
			}
			h.sought(1, 0, 0, api.SeekCur, from+int64(len(want)))
		}
		h.sought(1, 1, from, api.SeekSet, from)
		h.reads(1, 1, 3, strings.Repeat("\x00", int(min(3, full-from))))
		h.check()
	}
	h.sought(1, 1, 0, api.SeekSet, 0)
	h.reads(1, 1, greatest, strings.Repeat("\x00", full))
	h.sought(1, 1, 0, api.SeekCur, full)
	h.reads(1, 1, greatest, "")
}

// TestAccess holds which flags allow to read and to write, and to cut off; the others stay what they were.
func TestAccess(t *testing.T) {
	for _, flags := range sound {
		for _, p := range []string{"f", "new"} {
			h := young(t, caps(2, 2))
			if _, e := h.open(1, p, flags); e != api.OK {
				continue
			}
			bad := func(allowed bool) api.Errno {
				if allowed {
					return api.OK
				}
				return api.ErrBadF
			}
			_, e := h.read(1, 0, 1)
			h.must(e, bad(flags%2 == 1))
			h.check()
			_, e = h.write(1, 0, "abc")
			h.must(e, bad(flags/2%2 == 1))
			h.check()
			_, e = h.write(1, 0, "")
			h.must(e, bad(flags/2%2 == 1))
			h.must(h.trunc(1, 0, 2), bad(flags/2%2 == 1))
			h.check()
			for _, n := range numbers { // a wrong number is told of only where the flags allow the call
				want := bad(flags%2 == 1)
				if want == api.OK && n < 0 {
					want = api.ErrArg
				}
				_, e = h.read(1, 0, n)
				h.must(e, want)
				want = bad(flags/2%2 == 1)
				if want == api.OK && n < 0 {
					want = api.ErrArg
				}
				if want == api.OK && n > full {
					want = api.ErrFBig
				}
				h.must(h.trunc(1, 0, n), want)
			}
			_, e = h.write(1, 0, letters(full+1))
			want := bad(flags/2%2 == 1)
			if want == api.OK {
				want = api.ErrFBig
			}
			h.must(e, want)
			_, e = h.stat(1, 0)
			h.must(e, api.OK)
			h.check()
		}
	}
}

// TestWrite holds what P13.5 says of Write: at all offsets, before, at and behind the file's end, up to the greatest size.
func TestWrite(t *testing.T) {
	for _, flags := range []int{wr, rd + wr, wr + ap, rd + wr + ap} {
		for _, from := range []int64{0, 1, 4, 5, 6, 30, full - 3, full - 2, full - 1, full} {
			for _, data := range []string{"", "a", "ab", "abc", letters(40), letters(41)} {
				h := young(t, caps(2, 2))
				h.opened(1, "f", flags, 0)
				h.sought(1, 0, from, api.SeekSet, from)
				n, e := h.write(1, 0, data)
				h.check()
				at := from
				if has(flags, ap) {
					at = 5
				}
				if e == api.OK {
					h.sought(1, 0, 0, api.SeekCur, at+n)
				} else {
					h.sought(1, 0, 0, api.SeekCur, from)
				}
				h.written(1, 0, "")
				h.check()
			}
		}
	}
}

// TestWriteEdges holds some of that by numbers that are written out.
func TestWriteEdges(t *testing.T) {
	h := young(t, caps(4, 4))
	size := func(want int64) {
		t.Helper()
		if x, e := h.stat(1, 0); x.Size != want || e != api.OK {
			t.Fatalf("Stat = %+v, %d; want size %d", x, e, want)
		}
		h.check()
	}
	h.opened(1, "f", rd+wr, 0)
	h.sought(1, 0, full-2, api.SeekSet, full-2)
	if n, e := h.write(1, 0, "abc"); n != 0 || e != api.ErrFBig {
		t.Errorf("Write beyond the greatest size = %d, %d", n, e)
	}
	size(5)
	h.sought(1, 0, 0, api.SeekCur, full-2)
	h.written(1, 0, "ab")
	size(full)
	h.sought(1, 0, 0, api.SeekCur, full)
	h.written(1, 0, "")
	if n, e := h.write(1, 0, "a"); n != 0 || e != api.ErrFBig {
		t.Errorf("Write at the greatest size = %d, %d", n, e)
	}
	h.sought(1, 0, -3, api.SeekEnd, full-3)
	h.reads(1, 0, 9, "\x00ab")
	h.opened(1, "f", wr+ap, 1)
	if n, e := h.write(1, 1, "a"); n != 0 || e != api.ErrFBig {
		t.Errorf("Write behind a file of the greatest size = %d, %d", n, e)
	}
	h.sought(1, 1, 0, api.SeekCur, 0)
	h.written(1, 1, "")
	h.sought(1, 1, 0, api.SeekCur, full)
	h.must(h.trunc(1, 1, 9), api.OK)
	h.sought(1, 1, 0, api.SeekCur, full) // Trunc moves nothing
	h.written(1, 1, "xy")
	h.sought(1, 1, 0, api.SeekCur, 11)
	size(11)
	h.sought(1, 0, 0, api.SeekSet, 0)
	h.reads(1, 0, 20, "hello\x00\x00\x00\x00xy")
	if n, e := h.write(1, 0, letters(34)); n != 0 || e != api.ErrNoSpc {
		t.Errorf("Write of more than there is room for = %d, %d", n, e)
	}
	h.sought(1, 0, 0, api.SeekCur, 11)
	h.written(1, 0, letters(33))
	size(44)
	if n, e := h.write(1, 1, "x"); n != 0 || e != api.ErrNoSpc {
		t.Errorf("Write in a full store = %d, %d", n, e)
	}
	h.sought(1, 0, 40, api.SeekSet, 40)
	h.written(1, 0, "over")
	size(44)
}

// TestAppend holds that what is open for appending writes at the file's end, wherever it stands, and reads from where it has written.
func TestAppend(t *testing.T) {
	h := young(t, caps(5, 5))
	h.opened(1, "f", rd+wr+ap, 0)
	h.opened(1, "f", wr+ap, 1)
	h.opened(1, "f", rd+wr, 2)
	h.written(1, 0, "1")
	h.written(1, 1, "2")
	h.written(1, 0, "3")
	h.written(1, 2, "J")
	h.sought(1, 0, 0, api.SeekSet, 0)
	h.reads(1, 0, 2, "Je")
	h.written(1, 0, "4")
	h.reads(1, 0, 9, "")
	h.sought(1, 2, 20, api.SeekSet, 20)
	h.written(1, 2, "x")
	h.written(1, 1, "y")
	h.sought(1, 1, 0, api.SeekCur, 22)
	h.duped(1, 1, 3)
	h.sought(1, 3, 0, api.SeekSet, 0)
	h.written(1, 3, "z")
	h.sought(1, 1, 0, api.SeekCur, 23)
	h.sought(1, 2, 0, api.SeekSet, 0)
	h.reads(1, 2, 99, "Jello1234\x00\x00\x00\x00\x00\x00\x00\x00\x00\x00\x00xyz")
	h.must(h.trunc(1, 1, 1), api.OK)
	h.written(1, 0, "!")
	h.sought(1, 0, 0, api.SeekSet, 0)
	h.reads(1, 0, 99, "J!")
	h.must(h.trunc(1, 0, 30), api.OK)
	h.written(1, 0, "")
	h.sought(1, 0, 0, api.SeekCur, 30)
	h.store(2, 30, "more") // whoever made the file longer
	h.written(1, 1, "!")
	h.sought(1, 1, 0, api.SeekCur, 35)
	h.check()
}

// TestSharing holds that descriptors that share an open file go on where another one has stopped, and that open files that share an inode have offsets of their own, but the same bytes.
func TestSharing(t *testing.T) {
	h := young(t, caps(5, 5))
	h.opened(1, "f", rd+wr, 0)
	h.duped(1, 0, 1)
	h.must(h.clone(1, 2), api.OK)
	h.opened(2, "f", rd, 2)
	h.link("/f", "/l")
	h.opened(2, "l", rd+wr, 3)
	h.reads(1, 0, 1, "h")
	h.reads(2, 1, 1, "e")
	h.reads(2, 2, 2, "he")
	h.written(1, 1, "L")
	h.reads(2, 0, 9, "lo")
	h.reads(2, 2, 9, "Llo")
	h.written(2, 3, "HE")
	h.sought(1, 1, -4, api.SeekCur, 1)
	h.reads(2, 0, 9, "ELlo")
	h.reads(2, 3, 9, "Llo")
	h.written(2, 0, " all")
	h.reads(2, 2, 2, " a")
	h.reads(2, 3, 2, " a")
	h.sought(2, 1, 0, api.SeekCur, 9)
	h.must(h.trunc(2, 3, 3), api.OK)
	for fd := range 4 {
		h.reads(2, fd, 9, "")
	}
	h.written(1, 0, "!")
	h.reads(2, 2, 9, "\x00\x00!")
	h.fds(2,
		api.Fd{Fd: 0, Ino: 2, Offset: 10, Flags: rd + wr, Refs: 4}, api.Fd{Fd: 1, Ino: 2, Offset: 10, Flags: rd + wr, Refs: 4},
		api.Fd{Fd: 2, Ino: 2, Offset: 10, Flags: rd, Refs: 1}, api.Fd{Fd: 3, Ino: 2, Offset: 7, Flags: rd + wr, Refs: 1})
	h.check()
	h.whole()
}

// TestSeek holds what P13.6 says of Seek for each whence and others, from several offsets, in files of several sizes.
func TestSeek(t *testing.T) {
	for _, size := range []int64{0, 5, 6, full - 1, full} {
		for _, flags := range []int{rd, wr, rd + wr + ap} {
			h := young(t, caps(2, 2))
			h.cut(2, size)
			h.opened(1, "f", flags, 0)
			for _, from := range []int64{0, 3, 6, full - 1, full} {
				for _, whence := range append([]int{0, 1, 2, 3, 4, 256, 257, 258}, great...) {
					for _, by := range append([]int64{-size, -size - 1, full - size, full - size + 1, -from, -from - 1, full - from, full - from + 1}, numbers...) {
						h.sought(1, 0, from, api.SeekSet, from)
						at, e := h.seek(1, 0, by, whence)
						if e != api.OK {
							h.must(e, api.ErrArg)
							at = from
						}
						h.fds(1, api.Fd{Fd: 0, Ino: 2, Offset: at, Flags: flags, Refs: 1})
					}
				}
			}
			h.check()
		}
	}
}

// TestSeekEdges holds some of that by numbers that are written out.
func TestSeekEdges(t *testing.T) {
	h := young(t, caps(2, 2))
	h.opened(1, "f", wr, 0)
	for _, c := range []struct {
		by     int64
		whence int
		want   int64 // or -1
	}{
		{0, 0, 0}, {full, 0, full}, {full + 1, 0, -1}, {-1, 0, -1}, {3, 0, 3},
		{0, 1, 3}, {-3, 1, 0}, {-4, 1, -1}, {full - 3, 1, full}, {full - 2, 1, -1}, {greatest, 1, -1}, {least, 1, -1},
		{0, 2, 5}, {-5, 2, 0}, {-6, 2, -1}, {full - 5, 2, full}, {full - 4, 2, -1}, {greatest, 2, -1}, {least, 2, -1},
		{0, 3, -1}, {0, -1, -1}, {0, greatest, -1},
	} {
		h.sought(1, 0, 3, api.SeekSet, 3)
		at, e := h.seek(1, 0, c.by, c.whence)
		if c.want < 0 && (at != 0 || e != api.ErrArg) || c.want >= 0 && (at != c.want || e != api.OK) {
			t.Errorf("Seek by %d from %d = %d, %d; want %d", c.by, c.whence, at, e, c.want)
		}
	}
	h.store(2, 5, "more")
	h.sought(1, 0, -1, api.SeekEnd, 8)
	h.cut(2, 1)
	h.sought(1, 0, 0, api.SeekCur, 8) // the offset stays, though the file has become shorter
	h.sought(1, 0, 0, api.SeekEnd, 1)
	h.check()
}

// TestTrunc holds what P13.6 says of Trunc and Stat at all sizes, with and without OWrite.
func TestTrunc(t *testing.T) {
	for _, flags := range []int{rd, wr, rd + wr, wr + ap, wr + tr} {
		for _, size := range numbers {
			h := young(t, caps(2, 2))
			h.store(2, full-1, "x")
			h.opened(1, "f", flags, 0)
			h.sought(1, 0, 7, api.SeekSet, 7)
			before, _ := h.stat(1, 0)
			want := api.OK
			switch {
			case flags == rd:
				want = api.ErrBadF
			case size < 0:
				want = api.ErrArg
			case size > full:
				want = api.ErrFBig
			}
			h.must(h.trunc(1, 0, size), want)
			after, e := h.stat(1, 0)
			h.must(e, api.OK)
			if want != api.OK && after != before || want == api.OK && after.Size != size {
				t.Errorf("Trunc to %d with %d makes %+v of %+v", size, flags, after, before)
			}
			h.sought(1, 0, 0, api.SeekCur, 7)
			h.check()
		}
	}
}

// TestStat holds what P13.6 says of Stat: all of it, through whichever descriptor.
func TestStat(t *testing.T) {
	h := town(t)
	for _, c := range []struct {
		pid, fd int
		want    api.Stat
	}{
		{1, 0, api.Stat{Ino: 2, Kind: api.KFile, Links: 2, Opens: 2, Size: 5, Stored: 5}},
		{2, 1, api.Stat{Ino: 2, Kind: api.KFile, Links: 2, Opens: 2, Size: 5, Stored: 5}},
		{2, 3, api.Stat{Ino: 2, Kind: api.KFile, Links: 2, Opens: 2, Size: 5, Stored: 5}},
		{1, 2, api.Stat{Ino: 4, Kind: api.KFile, Links: 1, Opens: 1, Size: 5, Stored: 3}},
		{4, 1, api.Stat{Ino: 8, Kind: api.KFile, Opens: 1, Size: 4, Stored: 4}},
	} {
		if x, e := h.stat(c.pid, c.fd); x != c.want || e != api.OK {
			t.Errorf("Stat(%d, %d) = %+v, %d; want %+v", c.pid, c.fd, x, e, c.want)
		}
	}
	h.count(8, "Link")
	h.count(8, "Open")
	if x, e := h.stat(4, 1); x.Links != 1 || x.Opens != 2 || e != api.OK {
		t.Errorf("Stat = %+v, %d", x, e)
	}
}

// TestLists holds P13.7: processes and descriptors in ascending order, with each field, and nothing where there is nothing.
func TestLists(t *testing.T) {
	h := hold(t, caps(64, 64))
	if l := h.d.Procs(); len(l) != 0 {
		t.Errorf("Procs of a new table = %v", l)
	}
	for _, pid := range append([]int{1, 2, 0}, great...) {
		h.fds(pid)
	}
	h = town(t)
	if got, want := h.d.Procs(), []int{1, 2, 4, 7}; !slices.Equal(got, want) {
		t.Errorf("Procs() = %v; want %v", got, want)
	}
	h.fds(1, api.Fd{Fd: 0, Ino: 2, Offset: 2, Flags: 3, Refs: 3}, api.Fd{Fd: 2, Ino: 4, Flags: 1, Refs: 2}, api.Fd{Fd: 3, Ino: 2, Flags: 34, Refs: 2})
	h.fds(2, api.Fd{Fd: 0, Ino: 2, Offset: 2, Flags: 3, Refs: 3}, api.Fd{Fd: 1, Ino: 2, Offset: 2, Flags: 3, Refs: 3}, api.Fd{Fd: 2, Ino: 4, Flags: 1, Refs: 2}, api.Fd{Fd: 3, Ino: 2, Flags: 34, Refs: 2})
	h.fds(4, api.Fd{Fd: 1, Ino: 8, Offset: 4, Flags: 7, Refs: 1})
	h.fds(7)
	for _, pid := range append([]int{0, 3, 5}, great...) {
		h.fds(pid)
	}
	h = young(t, caps(64, 64))
	for fd := range 64 {
		h.opened(1, "f", []int{rd, wr, rd + wr}[fd%3], fd)
		h.sought(1, fd, int64(fd*fd), api.SeekSet, int64(fd*fd))
	}
	for _, fd := range []int{0, 9, 10, 31, 62, 63} {
		h.must(h.close(1, fd), api.OK)
		h.check()
	}
}

// TestNewMemory holds R3: lists are the caller's, their spare capacity too.
func TestNewMemory(t *testing.T) {
	h := town(t)
	for range 2 {
		for _, pid := range []int{1, 2, 4, 7, 3} {
			a, b := h.d.Fds(pid), h.d.Fds(pid)
			for _, l := range [][]api.Fd{a[:cap(a)], append(a, a...), append(a[:len(a)/2], a...)} {
				for i := range l {
					l[i] = api.Fd{Fd: -1, Ino: -1, Offset: -1, Flags: -1, Refs: -1}
				}
			}
			if want := h.m.fds(pid); !slices.Equal(b, want) {
				t.Errorf("another answer of Fds became %+v", b)
			}
		}
		a, b := h.d.Procs(), h.d.Procs()
		for _, l := range [][]int{a[:cap(a)], append(a, a...), append(a[:1], a...)} {
			for i := range l {
				l[i] = -1
			}
		}
		if want := []int{1, 2, 4, 7}; !slices.Equal(b, want) {
			t.Errorf("another answer of Procs became %v", b)
		}
		h.check()
	}
	fds, procs := h.d.Fds(1), h.d.Procs()
	before := slices.Clone(fds)
	h.sought(1, 0, 9, api.SeekSet, 9)
	h.must(h.drop(2), api.OK)
	h.must(h.close(1, 2), api.OK)
	if !slices.Equal(fds, before) || !slices.Equal(procs, []int{1, 2, 4, 7}) {
		t.Errorf("answers became %+v and %v behind calls", fds, procs)
	}
}

// TestNil holds R4: every call of a table that New has not returned, whatever else is wrong.
func TestNil(t *testing.T) {
	bad, _ := desc.New(nil, nil, api.Caps{})
	for name, d := range map[string]*desc.Table{"nil": nil, "New's with an error": bad, "empty": new(desc.Table)} {
		tell := func(call string, e api.Errno, empty bool) {
			t.Helper()
			if e != api.ErrNil || !empty {
				t.Errorf("%s: %s tells %d; want ErrNil, and nothing else", name, call, e)
			}
		}
		numbers := append([]int{0, 1, 2}, great...)
		for _, n := range numbers {
			tell("Add", d.Add(n), true)
			tell("Drop", d.Drop(n), true)
			if l := d.Fds(n); len(l) != 0 {
				t.Errorf("%s: Fds = %v", name, l)
			}
			for _, m := range numbers {
				tell("Clone", d.Clone(n, m), true)
				tell("Close", d.Close(n, m), true)
				tell("Trunc", d.Trunc(n, m, int64(n)), true)
				fd, e := d.Dup(n, m)
				tell("Dup", e, fd == 0)
				data, e := d.Read(n, m, int64(m))
				tell("Read", e, data == "")
				many, e := d.Write(n, m, "abc")
				tell("Write", e, many == 0)
				at, e := d.Seek(n, m, int64(n), m)
				tell("Seek", e, at == 0)
				x, e := d.Stat(n, m)
				tell("Stat", e, x == api.Stat{})
				for p := range wrong {
					fd, e = d.Open(n, p, m)
					tell("Open", e, fd == 0)
				}
				fd, e = d.Open(n, "f", m)
				tell("Open", e, fd == 0)
			}
		}
		if l := d.Procs(); len(l) != 0 {
			t.Errorf("%s: Procs = %v", name, l)
		}
	}
}

// TestErrorsChangeNothing holds that calls that tell an error, however often they are made, leave all as it was, and take no room.
func TestErrorsChangeNothing(t *testing.T) {
	h := town(t)
	before := h.m.text()
	for range 20 {
		h.must(h.add(0), api.ErrArg)
		h.must(h.add(1), api.ErrExist)
		h.must(h.clone(3, 0), api.ErrSrch)
		h.must(h.clone(1, 0), api.ErrArg)
		h.must(h.clone(1, 2), api.ErrExist)
		h.must(h.clone(1, 1), api.ErrExist)
		h.must(h.drop(3), api.ErrSrch)
		h.refused(1, "f", 0, api.ErrArg)
		h.refused(1, "f", wr+cr+ex+tr, api.ErrExist)
		h.refused(1, "d", wr+tr, api.ErrIsDir)
		h.refused(1, "f/", wr+tr, api.ErrNotDir)
		h.refused(1, "n/", wr+cr, api.ErrIsDir)
		h.must(h.close(1, 1), api.ErrBadF)
		h.must(h.close(7, 0), api.ErrBadF)
		for _, n := range []int64{-1, least} {
			_, e := h.read(1, 0, n)
			h.must(e, api.ErrArg)
			_, e = h.seek(1, 0, n, api.SeekSet)
			h.must(e, api.ErrArg)
			h.must(h.trunc(1, 3, n), api.ErrArg)
		}
		h.must(h.trunc(1, 0, full+1), api.ErrFBig)
		h.must(h.trunc(1, 2, 0), api.ErrBadF)
		_, e := h.write(1, 2, "x")
		h.must(e, api.ErrBadF)
		_, e = h.read(1, 3, 1)
		h.must(e, api.ErrBadF)
		_, e = h.write(1, 0, letters(40))
		h.must(e, api.ErrNoSpc)
		_, e = h.write(1, 3, letters(full))
		h.must(e, api.ErrFBig)
		_, e = h.seek(1, 0, 0, 3)
		h.must(e, api.ErrArg)
		h.check()
		if got := h.m.text(); got != before {
			t.Fatalf("%s has become %s", before, got)
		}
	}
	h.whole()
	h.opened(7, "f", rd, 0)
	h.opened(7, "f", rd, 1)
	h.refused(7, "f", rd, api.ErrNFile)
	h.written(1, 3, letters(28)) // all the room that there is
	if _, e := h.write(1, 3, "x"); e != api.ErrNoSpc {
		t.Errorf("Write of one byte more tells %d", e)
	}
}

// TestArguments holds that no text is kept that was handed in: its bytes may become others.
func TestArguments(t *testing.T) {
	h := young(t, caps(4, 4))
	handed := func(text string, call func(p string)) {
		b := []byte(text)
		call(unsafe.String(&b[0], len(b)))
		for i := range b {
			b[i] = 'x'
		}
	}
	handed("new", func(p string) { h.open(1, p, rd+wr+cr) })
	h.m.ways = map[string]*thing{"": h.m.by(1), "/f": h.m.by(2), "/new": h.m.by(3)} // the model has kept it
	handed("abc", func(p string) { h.write(1, 0, p) })
	handed("./new", func(p string) { h.open(1, p, rd) })
	h.reads(1, 1, 9, "abc")
	h.check()
}

// TestNameless holds P13.8 for each way in which an open file may lose its names, and each in which its last descriptor may go.
func TestNameless(t *testing.T) {
	lose := map[string]func(h *held){
		"unlinked": func(h *held) { h.remove("/d/o") },
		"replaced": func(h *held) { h.rename("/f", "/d/o") },
		"linked, unlinked twice": func(h *held) {
			h.link("/d/o", "/e/l")
			h.remove("/d/o")
			h.remove("/e/l")
		},
		"renamed, unlinked, with its directory": func(h *held) {
			h.rename("/d/o", "/d/p")
			h.rename("/d", "/e/d")
			h.remove("/e/d/p")
			h.remove("/e/d")
			h.remove("/e")
		},
		"by the store itself": func(h *held) {
			h.count(5, "Link")
			h.remove("/d/o")
			h.count(5, "Unlink")
		},
	}
	end := map[string]func(h *held){
		"closed":         func(h *held) { h.must(h.close(1, 0), api.OK) },
		"dropped":        func(h *held) { h.must(h.drop(1), api.OK) },
		"closed by both": func(h *held) { h.both(1, 0); h.must(h.close(1, 0), api.OK); h.must(h.close(2, 0), api.OK) },
		"dropped, both":  func(h *held) { h.both(1, 0); h.must(h.drop(1), api.OK); h.must(h.drop(2), api.OK) },
		"clone's dropped": func(h *held) {
			h.both(1, 0)
			h.must(h.close(1, 0), api.OK)
			h.duped(2, 0, 1)
			h.must(h.clone(2, 3), api.OK)
			h.must(h.drop(2), api.OK)
			h.must(h.close(3, 0), api.OK)
			h.counts(5, 0, 1)
			h.must(h.drop(3), api.OK)
		},
	}
	for _, before := range end {
		for _, loses := range lose {
			h := young(t, caps(4, 4))
			h.make("/d", api.KDir)
			h.make("/e", api.KDir)
			h.opened(1, "d/o", rd+wr+cr, 0)
			h.written(1, 0, "open")
			h.counts(5, 1, 1)
			loses(h)
			h.check()
			h.whole()
			h.counts(5, 0, 1)
			h.sought(1, 0, 0, api.SeekSet, 0)
			h.reads(1, 0, 2, "op")
			h.written(1, 0, "EN more")
			h.must(h.trunc(1, 0, 7), api.OK)
			h.sought(1, 0, 0, api.SeekSet, 0)
			h.reads(1, 0, 99, "opEN mo")
			h.make("/o", api.KFile) // another inode, for this one's number is in use
			h.counts(5, 0, 1)
			before(h)
			h.isGone(5)
			h.check()
			h.whole()
			h.opened(h.anyone(), "o2", wr+cr, 0)
		}
	}
}

// both makes process 2 a clone.
func (h *held) both(pid, fd int) {
	h.t.Helper()
	h.must(h.clone(pid, 2), api.OK)
	h.reads(2, fd, 9, "")
}

// anyone is a process without descriptors.
func (h *held) anyone() int {
	h.t.Helper()
	h.must(h.add(77), api.OK)
	return 77
}

// TestNamed holds that a file that has a name stays when its last descriptor goes.
func TestNamed(t *testing.T) {
	h := young(t, caps(4, 4))
	h.opened(1, "g", wr+cr, 0)
	h.written(1, 0, "g")
	h.link("/g", "/l")
	h.remove("/g")
	h.must(h.close(1, 0), api.OK)
	h.counts(3, 1, 0)
	h.opened(1, "l", rd, 0)
	h.reads(1, 0, 9, "g")
	h.rename("/l", "/f")
	h.isGone(2)
	h.must(h.drop(1), api.OK)
	h.counts(3, 1, 0)
	h.check()
}

// TestOpensOfOthers holds that an open file ends no opens but its own, be they another one's of the same inode, those of another table, or the store's.
func TestOpensOfOthers(t *testing.T) {
	h := young(t, caps(4, 4))
	other, e := desc.New(h.s, h.x, caps(4, 4))
	h.must(e, api.OK)
	h.must(other.Add(1), api.OK)
	fd, e := other.Open(1, "f", rd)
	if fd != 0 || e != api.OK {
		t.Fatalf("Open = %d, %d", fd, e)
	}
	h.m.by(2).opens++
	h.count(2, "Open")
	h.opened(1, "f", rd, 0)
	h.opened(1, "f", wr, 1)
	h.remove("/f")
	h.counts(2, 0, 4)
	h.must(h.close(1, 0), api.OK)
	h.counts(2, 0, 3)
	h.must(h.drop(1), api.OK)
	h.counts(2, 0, 2)
	h.check()
	h.count(2, "Close")
	if d, e := other.Read(1, 0, 9); d != "hello" || e != api.OK {
		t.Errorf("Read = %q, %d", d, e)
	}
	h.must(other.Drop(1), api.OK)
	h.isGone(2)
}

// TestStates makes each of some calls in every state to which they lead, with two processes, one file, two open files, and one byte.
func TestStates(t *testing.T) {
	c := api.Caps{Inodes: 2, Bytes: 1, Links: 1, Files: 2, Opens: 2}
	calls := []func(h *held){
		func(h *held) { h.add(1) },
		func(h *held) { h.clone(1, 2) },
		func(h *held) { h.clone(2, 1) },
		func(h *held) { h.drop(1) },
		func(h *held) { h.drop(2) },
		func(h *held) {
			if h.m.ways["/f"] != nil {
				h.remove("/f")
			}
		},
	}
	for pid := 1; pid <= 2; pid++ {
		calls = append(calls,
			func(h *held) { h.open(pid, "f", rd+wr+cr) },
			func(h *held) { h.open(pid, "f", rd+wr) },
			func(h *held) { h.dup(pid, 0) },
			func(h *held) { h.dup(pid, 1) })
		for fd := range 2 {
			calls = append(calls,
				func(h *held) { h.close(pid, fd) },
				func(h *held) { h.write(pid, fd, "x") },
				func(h *held) { h.seek(pid, fd, 0, api.SeekSet) })
		}
		calls = append(calls, func(h *held) { h.read(pid, 0, 1) })
	}
	replay := func(history []int) *held {
		h := hold(t, c)
		for _, i := range history {
			calls[i](h)
		}
		return h
	}
	known := map[string]int{newModel(c).text(): 1}
	states := [][]int{nil}
	for at := 0; at < len(states); at++ {
		h := replay(states[at])
		before := h.m.text()
		for i, call := range calls {
			call(h)
			after := h.m.text()
			if after == before {
				continue
			}
			h.check()
			h.whole()
			if known[after] == 0 {
				known[after] = 1
				states = append(states, append(slices.Clone(states[at]), i))
			}
			h = replay(states[at])
		}
		h.check()
	}
	t.Logf("%d states", len(states))
}

// walker makes random calls.
type walker struct {
	*rand.Rand
	*held
}

// pick is one of some texts.
func (w walker) pick(texts string) string {
	l := strings.Fields(texts)
	return l[w.Intn(len(l))]
}

// pid and fd are often those of a process and a descriptor that are there.
func (w walker) pid() int {
	if l := w.d.Procs(); len(l) > 0 && w.Intn(12) > 0 {
		return l[w.Intn(len(l))]
	}
	return w.Intn(7)
}

func (w walker) fd(pid int) int {
	if l := w.d.Fds(pid); len(l) > 0 && w.Intn(12) > 0 {
		return l[w.Intn(len(l))].Fd
	}
	return w.Intn(8) - 1
}

// number is one for offsets, sizes and counts alike.
func (w walker) number() int64 {
	switch w.Intn(20) {
	case 0:
		return numbers[w.Intn(len(numbers))]
	case 1:
		return int64(-w.Intn(12))
	}
	return int64(w.Intn(12))
}

// flags are often valid.
func (w walker) flags() int {
	if w.Intn(12) == 0 {
		return w.Intn(66) - 1
	}
	return sound[w.Intn(len(sound))]
}

const ways = "/a /b /c /d /d/a /d/b /d/e /d/e/a"

// act makes a random call of the table.
func (w walker) act() {
	pid := w.pid()
	fd := w.fd(pid)
	switch call := w.Intn(34); {
	case call < 2:
		w.add(w.Intn(7))
	case call < 4:
		w.clone(pid, w.Intn(7))
	case call < 5:
		w.drop(pid)
	case call < 12:
		w.open(pid, w.pick(ways+" a ./b d/../c d/./e/a /a/ / d/ d/x/a a/b x//y"), w.flags())
	case call < 15:
		w.close(pid, fd)
	case call < 18:
		w.dup(pid, fd)
	case call < 22:
		w.read(pid, fd, w.number())
	case call < 26:
		w.write(pid, fd, letters(w.Intn(9)))
	case call < 30:
		w.seek(pid, fd, w.number(), w.Intn(5)-1+w.Intn(2))
	case call < 33:
		w.trunc(pid, fd, w.number())
	default:
		w.stat(pid, fd)
	}
}

// below says whether a way has others below it.
func (w walker) below(way string) bool {
	return w.m.isDir(way) && len(w.m.under(way)) > 0
}

// meddle makes a random call of the tree or the store, if it is one that is answered OK.
func (w walker) meddle() {
	m, a, b := w.m, w.pick(ways), w.pick(ways)
	x, y := m.ways[a], m.ways[b]
	n := m.things[w.Intn(len(m.things))]
	file := n.kind == 1
	switch w.Intn(12) {
	case 0, 1:
		if x == nil && m.isDir(above(a)) && len(m.things) < m.caps.Inodes {
			w.make(a, 1+w.Intn(2))
		}
	case 2:
		if x != nil && x.kind == 1 && y == nil && m.isDir(above(b)) && m.links(x) < m.caps.Links {
			w.link(a, b)
		}
	case 3, 4:
		if x != nil && !w.below(a) {
			w.remove(a)
		}
	case 5, 6:
		fits := y == nil || x != nil && y.kind == x.kind && !w.below(b)
		if x != nil && fits && m.isDir(above(b)) && !strings.HasPrefix(b+"/", a+"/") {
			w.rename(a, b)
		}
	case 7:
		if m.links(n) < m.caps.Links && file {
			w.count(n.ino, "Link")
		}
	case 8:
		if n.links > 0 {
			w.count(n.ino, "Unlink")
		}
	case 9:
		if n.opens == 0 {
			w.count(n.ino, "Open")
		} else {
			w.count(n.ino, "Close")
		}
	case 10:
		if file {
			w.store(n.ino, int64(w.Intn(12)), letters(w.Intn(6)))
		}
	default:
		if file {
			w.cut(n.ino, w.number())
		}
	}
}

// TestRandom holds long runs of random calls, with those of the tree and the store between them, against the model, and P13.8 after each of them.
func TestRandom(t *testing.T) {
	for seed := range 120 {
		r := rand.New(rand.NewSource(int64(seed)))
		c := api.Caps{Inodes: []int{2, 3, 5, 9}[seed%4], Bytes: []int{0, 7, 30, 200, 9999}[seed%5], Links: 1 + seed%3, Files: []int{1, 2, 3, 6}[r.Intn(4)], Opens: []int{1, 2, 4, 9}[r.Intn(4)]}
		w := walker{r, hold(t, c)}
		for range 1200 {
			if r.Intn(4) == 0 {
				w.meddle()
			} else {
				w.act()
			}
			w.check()
			w.whole()
		}
		w.finish()
	}
}

// finish ends all processes, and all that tests have counted: what remains are the files that have names.
func (w walker) finish() {
	w.t.Helper()
	for _, pid := range w.d.Procs() {
		w.must(w.drop(pid), api.OK)
	}
	for _, x := range slices.Clone(w.m.things) {
		for x.opens > 0 {
			w.count(x.ino, "Close")
		}
		for x.links > 0 {
			w.count(x.ino, "Unlink")
		}
	}
	w.check()
	w.whole()
	for _, x := range w.m.things {
		if w.m.links(x) == 0 {
			w.t.Fatalf("%+v has remained", x)
		}
	}
}

// TestStrangers holds that every call ends, and has nothing beside its error, whatever others do to the store meanwhile, be it that they remove what is open.
func TestStrangers(t *testing.T) {
	for seed := range 40 {
		r := rand.New(rand.NewSource(int64(seed)))
		h := young(t, api.Caps{Inodes: 2 + seed%5, Bytes: 50, Links: 2, Files: 1 + seed%5, Opens: 1 + seed%7})
		s, x, d := h.s, h.x, h.d
		for range 3000 {
			n, pid, fd := 1+r.Intn(6), 1+r.Intn(4), r.Intn(6)
			p := strings.Fields("a b f d d/a d/b")[r.Intn(6)]
			empty, e := true, api.OK
			switch r.Intn(22) {
			case 0:
				s.Unlink(n)
			case 1:
				s.Close(n)
			case 2:
				s.Make(1 + n%2)
			case 3:
				s.Write(n, 0, "abc")
			case 4:
				x.Make("d", api.KDir)
			case 5:
				x.Unlink(p)
			case 6:
				e = d.Add(pid)
			case 7:
				e = d.Clone(pid, n)
			case 8:
				e = d.Drop(pid)
			case 9:
				e = d.Close(pid, fd)
			case 10:
				e = d.Trunc(pid, fd, int64(n))
			case 11:
				v, ve := d.Dup(pid, fd)
				empty, e = v == 0, ve
			case 12, 13:
				v, ve := d.Read(pid, fd, int64(n))
				empty, e = v == "", ve
			case 14, 15:
				v, ve := d.Write(pid, fd, letters(n))
				empty, e = v == 0, ve
			case 16:
				v, ve := d.Seek(pid, fd, int64(n), r.Intn(3))
				empty, e = v == 0, ve
			case 17:
				v, ve := d.Stat(pid, fd)
				empty, e = v == api.Stat{}, ve
			default:
				v, ve := d.Open(pid, p, sound[r.Intn(len(sound))])
				empty, e = v == 0, ve
			}
			if e != api.OK && !empty {
				t.Fatalf("something stands beside error %d", e)
			}
		}
	}
}
