package names_test

import (
	"fmt"
	"maps"
	"math/rand"
	"slices"
	"strconv"
	"strings"
	"testing"
	"unsafe"

	"hayward/api"
	"hayward/inode"
	"hayward/names"
)

// The signatures are part of the chapter.
var (
	_ func(s *inode.Store) (*names.Tree, api.Errno)             = names.New
	_ func(x *names.Tree, p string) (int, api.Errno)            = (*names.Tree).Find
	_ func(x *names.Tree, p string, kind int) (int, api.Errno)  = (*names.Tree).Make
	_ func(x *names.Tree, old, name string) api.Errno           = (*names.Tree).Link
	_ func(x *names.Tree, p string) api.Errno                   = (*names.Tree).Unlink
	_ func(x *names.Tree, p string) api.Errno                   = (*names.Tree).Rmdir
	_ func(x *names.Tree, old, name string) api.Errno           = (*names.Tree).Rename
	_ func(x *names.Tree, p string) (l []api.Name, e api.Errno) = (*names.Tree).List
)

var (
	// kinds are numbers that are none.
	kinds = []int{least, least + 1, -2, -1, 0, 3, 4, 5, 257, 258, 1 << 32, 1<<32 + 1, 1<<32 + 2, greatest - 1, greatest}
	// single and double are the calls with one path and with two.
	single = []string{"file", "dir", "unlink", "rmdir", "find", "list"}
	double = []string{"link", "rename"}
	// wrong are texts that are no paths, with what is told of them.
	wrong = []struct {
		p string
		e api.Errno
	}{
		{"", api.ErrNoEnt},
		{"\x00", api.ErrArg}, {"d/\x00", api.ErrArg}, {"a\x00b/c", api.ErrArg}, {"d/f\x00", api.ErrArg}, {strings.Repeat("a", 256), api.ErrNameLong},
		{strings.Repeat("a", 33), api.ErrNameLong}, {"d/" + strings.Repeat("a", 33), api.ErrNameLong}, {strings.Repeat(".", 33) + "/..", api.ErrNameLong}, {"none/" + strings.Repeat("é", 17) + "/", api.ErrNameLong},
		{strings.Repeat("/", 257), api.ErrNameLong}, {strings.Repeat("d/", 128) + "d", api.ErrNameLong}, {strings.Repeat("a", 1000), api.ErrNameLong}, {strings.Repeat("\x00", 257), api.ErrNameLong},
		{strings.Repeat("a", 33) + "\x00", api.ErrArg},
	}
)

// do makes a call by its name.
func (h *held) do(call string, p ...string) api.Errno {
	h.t.Helper()
	var e api.Errno
	switch call {
	case "file":
		_, e = h.make(p[0], api.KFile)
	case "dir":
		_, e = h.make(p[0], api.KDir)
	case "find":
		_, e = h.find(p[0])
	case "list":
		_, e = h.list(p[0])
	case "unlink":
		e = h.unlink(p[0])
	case "rmdir":
		e = h.rmdir(p[0])
	case "link":
		e = h.link(p[0], p[1])
	case "rename":
		e = h.rename(p[0], p[1])
	default:
		h.t.Fatalf("no call %q", call)
	}
	return e
}

// done makes calls that must be answered OK: each a call with its paths, separated by blanks.
func (h *held) done(calls ...string) {
	h.t.Helper()
	for _, c := range calls {
		words := strings.Fields(c)
		if e := h.do(words[0], words[1:]...); e != api.OK {
			h.t.Fatalf("%s tells %d", c, e)
		}
	}
}

// town is a tree in which there is something of every sort: directories with names and without, and files with one link, with two, and with as many as there may be.
func town(t *testing.T) *held {
	t.Helper()
	h := hold(t, 13, 3)
	h.made("d", api.KDir, 2)
	h.made("d/f", api.KFile, 3)
	h.made("d/e", api.KDir, 4)
	h.made("d/e/g", api.KFile, 5)
	h.made("v", api.KDir, 6)
	h.made("w", api.KDir, 7)
	h.made("h", api.KFile, 8)
	h.done("link h d/k", "link d/k l")
	h.made("d/e/v", api.KDir, 9)
	h.made("m", api.KFile, 10)
	h.done("link m d/e/m")
	return h
}

// TestExamples are the chapter's, one row after the other.
func TestExamples(t *testing.T) {
	h := hold(t, 9, 2)
	h.is(1, "/")
	h.made("d", api.KDir, 2)
	h.made("/d/f", api.KFile, 3)
	h.is(3, "d/../d/./f")
	h.must(h.do("dir", "d/f"), api.ErrExist)
	h.must(h.do("file", "x/f"), api.ErrNoEnt)
	h.must(h.do("file", "d/f/g"), api.ErrNotDir)
	h.done("link d/f g")
	h.is(3, "g")
	h.done("unlink d/f", "rmdir d")
	l, e := h.list("/")
	if want := []api.Name{{Name: "g", Ino: 3, Kind: api.KFile}}; !slices.Equal(l, want) || e != api.OK {
		t.Errorf("List of the root = %v, %d", l, e)
	}
	h.made("a", api.KDir, 2)
	h.made("a/b", api.KDir, 4)
	h.must(h.rename("a", "a/b/c"), api.ErrArg)
	h.must(h.rename("a/b", "c"), api.OK)
	h.is(4, "c", "a/../c/")
	h.check()
	h.whole()
}

// TestNew holds P12.1.
func TestNew(t *testing.T) {
	for _, s := range []*inode.Store{nil, {}} {
		if x, e := names.New(s); x != nil || e != api.ErrNil {
			t.Errorf("New(%v) = %v, %d; want ErrNil", s, x, e)
		}
	}
	for _, kind := range []int{api.KFile, api.KDir} {
		for many := 1; many <= 3; many++ {
			for gone := range many {
				s, _ := inode.New(api.Caps{Inodes: 3, Links: 1})
				for range many {
					s.Make(kind)
				}
				for n := range gone {
					s.Unlink(n + 1)
				}
				before := s.All()
				if x, e := names.New(s); x != nil || e != api.ErrArg {
					t.Errorf("New of a store of %d inodes = %v, %d; want ErrArg", many-gone, x, e)
				}
				if !slices.Equal(s.All(), before) {
					t.Errorf("New has made %v of %v", s.All(), before)
				}
			}
		}
		s, _ := inode.New(api.Caps{Inodes: 3, Links: 1})
		n, _ := s.Make(kind)
		s.Open(n)
		s.Unlink(n)
		if x, e := names.New(s); x != nil || e != api.ErrArg {
			t.Errorf("New of a store with an open inode = %v, %d; want ErrArg", x, e)
		}
		s.Close(n)
		if x, e := names.New(s); x == nil || e != api.OK {
			t.Errorf("New of a store whose only inode has gone = %v, %d", x, e)
		}
		if want := []api.Stat{{Ino: 1, Kind: api.KDir, Links: 1}}; !slices.Equal(s.All(), want) {
			t.Errorf("New has made %v", s.All())
		}
		if x, e := names.New(s); x != nil || e != api.ErrArg {
			t.Errorf("a second New = %v, %d; want ErrArg", x, e)
		}
	}
}

// TestYoung holds what a new tree is, be its store full with the root alone or not.
func TestYoung(t *testing.T) {
	for _, inodes := range []int{1, 2, 4096} {
		h := hold(t, inodes, 1)
		h.is(1, "/", "//", ".", "..", "./", "/..", "../", "../..", "./.././/", strings.Repeat("/", 256), strings.Repeat("../", 85))
		h.isNone(api.ErrNoEnt, "a", "/a", "a/", "a/.", "a/..", "a/b", "../a", "./a/", "...", ".a", "..a", "a.")
		h.check()
		h.whole()
		if l, e := h.list("/"); len(l) != 0 || e != api.OK {
			t.Errorf("List of a new root = %v, %d", l, e)
		}
	}
	h := hold(t, 1, 1)
	for _, p := range []string{"a", "/a", "./a", "../a"} {
		h.must(h.do("file", p), api.ErrNoSpc)
		h.must(h.do("dir", p), api.ErrNoSpc)
		h.must(h.do("dir", p+"/"), api.ErrNoSpc)
		h.must(h.do("file", p+"/"), api.ErrIsDir)
	}
	h.check()
}

// TestNil holds that a tree that New has not returned answers ErrNil, whatever else is wrong.
func TestNil(t *testing.T) {
	texts := []string{"", "/", "a", ".", "a/b", "a\x00", strings.Repeat("a", 300)}
	for _, x := range []*names.Tree{nil, {}} {
		for _, p := range texts {
			for _, kind := range append([]int{api.KFile, api.KDir}, kinds...) {
				if n, e := x.Make(p, kind); n != 0 || e != api.ErrNil {
					t.Errorf("Make(%q, %d) = %d, %d; want ErrNil", p, kind, n, e)
				}
			}
			if n, e := x.Find(p); n != 0 || e != api.ErrNil {
				t.Errorf("Find(%q) = %d, %d; want ErrNil", p, n, e)
			}
			if l, e := x.List(p); len(l) != 0 || e != api.ErrNil {
				t.Errorf("List(%q) = %v, %d; want ErrNil", p, l, e)
			}
			if e := x.Unlink(p); e != api.ErrNil {
				t.Errorf("Unlink(%q) = %d; want ErrNil", p, e)
			}
			if e := x.Rmdir(p); e != api.ErrNil {
				t.Errorf("Rmdir(%q) = %d; want ErrNil", p, e)
			}
			for _, q := range texts {
				if e := x.Link(p, q); e != api.ErrNil {
					t.Errorf("Link(%q, %q) = %d; want ErrNil", p, q, e)
				}
				if e := x.Rename(p, q); e != api.ErrNil {
					t.Errorf("Rename(%q, %q) = %d; want ErrNil", p, q, e)
				}
			}
		}
	}
}

// TestFind holds P12.2 at all sorts of paths.
func TestFind(t *testing.T) {
	h := town(t)
	for _, c := range []struct {
		n     int
		paths string
	}{
		{1, "/ // . .. ./ ../ /. /.. ../.. /../../ d/.. d/../ d/e/../.. v/../. v/.././ d/../v/../w/.."},
		{2, "d /d d/ /d/ //d// d/. d/./ ./d ../d /../d/. d/e/.. d/e/../ d/../d v/../d/ d/e/v/../.."},
		{3, "d/f /d/f d//f d/./f d/../d/f ../d/f d/e/../f .//d///./e/..//f"},
		{4, "d/e d/e/ /d/e/. d/e/v/.."},
		{5, "d/e/g d/e/v/../g d/e/../e/g"},
		{6, "v v/ /v/. w/../v"},
		{8, "h d/k l d/../h d/e/../../l ./h //l"},
		{9, "d/e/v d/e/v/ d/e/./v/."},
		{10, "m d/e/m /d/e/../../m"},
	} {
		h.is(c.n, strings.Fields(c.paths)...)
	}
	h.isNone(api.ErrNoEnt, strings.Fields("x /x x/ x/. x/.. x/y ./x ../x d/x d/x/ d/x/.. d/e/f v/x v/h d/.../f D f g e k d/d d/../f ... d/.f d/f. .h /d/e/../x x/../d")...)
	h.isNone(api.ErrNotDir, strings.Fields("h/ /h// d/f/ d/k/ l/ h/. h/.. h/./ h/x d/f/. d/f/.. d/f/g d/f/../e d/e/g/../.. ../h/.. d/e/../k/ m/../m")...)
	for _, w := range wrong {
		h.isNone(w.e, w.p)
	}
	h.check()
	h.whole()
}

// TestWrong holds that what is no path is told ahead of all else, of old ahead of name, but behind a kind that is none.
func TestWrong(t *testing.T) {
	h := town(t)
	paths := []string{"/", ".", "..", "h/..", "h", "d", "x", "x/y", "d/f/", "v/", "none"}
	for _, w := range wrong {
		for _, call := range single {
			h.must(h.do(call, w.p), w.e)
		}
		for _, kind := range kinds {
			if n, e := h.make(w.p, kind); n != 0 || e != api.ErrArg {
				t.Errorf("Make(%q, %d) = %d, %d; want ErrArg", w.p, kind, n, e)
			}
		}
		for _, call := range double {
			for _, p := range paths {
				h.must(h.do(call, w.p, p), w.e)
				h.must(h.do(call, p, w.p), w.e)
			}
			for _, v := range wrong {
				h.must(h.do(call, w.p, v.p), w.e)
			}
		}
	}
	h.check()
}

// TestLengths holds that names of 32 bytes and paths of 256 are none too long, whatever bytes they have.
func TestLengths(t *testing.T) {
	h := hold(t, 500, 2)
	n := 1
	for _, name := range []string{strings.Repeat("a", 32), strings.Repeat("é", 16), strings.Repeat("\xff", 32), strings.Repeat(".", 32), "...", "\x01", "\xc3", " ", "~", "\n"} {
		n++
		h.made(name, api.KDir, n)
		h.is(n, name, "/"+name, name+"/", name+"/..//"+name)
		n++
		h.made(name+"/"+name, api.KFile, n)
		h.is(n, name+"/"+name, name+"/../"+name+"/"+name)
		h.must(h.rename(name+"/"+name, name+"/.x"), api.OK)
		h.must(h.link(name+"/.x", name+"/"+name), api.OK)
		h.must(h.unlink(name+"/.x"), api.OK)
	}
	h.check()
	top := n
	for deep := 1; deep <= 127; deep++ { // 127 names of one byte, with slashes around them, have 255 bytes
		n++
		h.made(strings.Repeat("q/", deep), api.KDir, n)
	}
	long := "/" + strings.Repeat("q/", 127)
	h.is(n, long, long+"/", long+".", long[1:]+"./")
	h.made(long+"z", api.KFile, n+1)
	h.is(n+1, long+"z")
	h.must(h.rename(long+"z", long+"y"), api.OK)
	h.must(h.link(long+"y", long+"z"), api.OK)
	h.must(h.unlink(long+"y"), api.OK)
	h.must(h.do("file", long+"zz"), api.ErrNameLong)
	h.must(h.do("file", long+"z/"), api.ErrNameLong)
	h.is(top+16, strings.Repeat("q/", 60)+strings.Repeat("../", 45)+"q")
	h.isNone(api.ErrNameLong, strings.Repeat("q/", 60)+strings.Repeat("../", 45)+"q/")
}

// TestMake holds P12.3: both kinds, in directories at any depth, by all sorts of paths.
func TestMake(t *testing.T) {
	h := hold(t, 40, 2)
	n := 1
	for _, p := range []string{"a", "/b", "./c", "../e", "a/f", "/a//g", "a/../a/i", "b/./../a/j", "a/f/k", "a/f/../f/l", "a/f/k/o", "a/f/k/o/p/", "//q/", "a/f/k/o/p/./r//"} {
		n++
		h.made(p, api.KDir, n)
		h.is(n, p, p+"/.")
		if l, e := h.list(p); len(l) != 0 || e != api.OK {
			t.Errorf("a new directory has %v, %d", l, e)
		}
		n++
		file := strings.TrimRight(p, "/") + "F"
		h.made(file, api.KFile, n)
		h.is(n, file)
		h.isNone(api.ErrNotDir, file+"/", file+"/.")
		h.counts(n, 1, 0)
		h.check()
		h.whole()
	}
	h.is(2, "a/f/k/../..", "b/../a/f/..")
}

// TestKinds holds that only two numbers are kinds, whatever the path is.
func TestKinds(t *testing.T) {
	h := town(t)
	for _, kind := range kinds {
		for _, p := range []string{"", "/", ".", "x", "d", "d/f", "h/x", "x/y", "d/x/", "\x00"} {
			if n, e := h.make(p, kind); n != 0 || e != api.ErrArg {
				t.Errorf("Make(%q, %d) = %d, %d; want ErrArg", p, kind, n, e)
			}
		}
	}
	h.check()
}

// TestFull holds that as many inodes are made as the store has, that none more is, and that one is again when another has gone.
func TestFull(t *testing.T) {
	for _, inodes := range []int{1, 2, 3, 10, 300} {
		h := hold(t, inodes, 2)
		for n := 2; n <= inodes; n++ {
			h.made("x"+strconv.Itoa(n), 1+n%2, n)
		}
		for _, p := range []string{"new", "/new", "x3/new", "./x3/../new"} {
			if inodes < 3 && strings.Contains(p, "x3") {
				continue
			}
			h.must(h.do("dir", p), api.ErrNoSpc)
			h.must(h.do("file", p), api.ErrNoSpc)
		}
		h.check()
		if inodes < 3 {
			continue
		}
		h.done("rmdir x3")
		h.made("new", api.KFile, 3)
		h.must(h.do("file", "newer"), api.ErrNoSpc)
		h.done("link new newer", "unlink new") // names are made in a full store, too
		h.must(h.do("file", "new"), api.ErrNoSpc)
		h.check()
		h.whole()
	}
}

// TestMany holds a directory with as many names as there may be inodes.
func TestMany(t *testing.T) {
	s, _ := inode.New(api.Caps{Inodes: 4096, Links: 1})
	x, _ := names.New(s)
	var want []api.Name
	for n := 2; n <= 4096; n++ {
		name := strconv.Itoa(n * 7919 % 4096)
		if got, e := x.Make("/"+name, 1+n%2); got != n || e != api.OK {
			t.Fatalf("Make(%q) = %d, %d; want %d", name, got, e, n)
		}
		want = append(want, api.Name{Name: name, Ino: n, Kind: 1 + n%2})
	}
	slices.SortFunc(want, func(a, b api.Name) int { return strings.Compare(a.Name, b.Name) })
	if l, e := x.List("/"); !slices.Equal(l, want) || e != api.OK {
		t.Errorf("List of 4095 names = %d names, %d", len(l), e)
	}
	if n, e := x.Make("new", api.KFile); n != 0 || e != api.ErrNoSpc {
		t.Errorf("Make on a full store = %d, %d", n, e)
	}
	for _, n := range want {
		e := x.Unlink(n.Name)
		if n.Kind == api.KDir {
			e = x.Rmdir(n.Name)
		}
		if e != api.OK {
			t.Fatalf("%v is not removed: %d", n, e)
		}
	}
	if l, e := x.List("/"); len(l) != 0 || e != api.OK || len(s.All()) != 1 {
		t.Errorf("List = %v, %d; the store has %d inodes", l, e, len(s.All()))
	}
}

// TestLink holds P12.4: a file gets as many names as there may be, in all directories, and none more.
func TestLink(t *testing.T) {
	for links := 1; links <= 5; links++ {
		h := hold(t, 5, links)
		h.done("dir d", "dir d/e", "file d/f")
		places := []string{"g", "/d/g", "d/e/./g", "d/e/../h", "../h", "d/e/h"}
		for i, p := range places {
			if i < links-1 {
				h.must(h.link("d/f", p), api.OK)
				h.is(4, p, "d/f")
			} else {
				h.must(h.link("d/f", p), api.ErrMLink)
				h.isNone(api.ErrNoEnt, p)
			}
			h.counts(4, min(i+2, links), 0)
			h.check()
			h.whole()
		}
		h.done("unlink d/f")
		for _, p := range places[:links-1] { // the last of the names ends the file
			h.is(4, p)
			h.must(h.unlink(p), api.OK)
			h.check()
		}
		h.isGone(4)
	}
}

// TestManyLinks holds that a file has as many names as the greatest capacity allows.
func TestManyLinks(t *testing.T) {
	const links = 32768
	s, _ := inode.New(api.Caps{Inodes: 2, Links: links})
	x, _ := names.New(s)
	x.Make("0", api.KFile)
	for i := 1; i < links; i++ {
		if e := x.Link(strconv.Itoa(i-1), strconv.Itoa(i)); e != api.OK {
			t.Fatalf("Link to name %d tells %d", i, e)
		}
	}
	if e := x.Link("0", "more"); e != api.ErrMLink {
		t.Errorf("Link to one name more tells %d", e)
	}
	l, e := x.List("/")
	if len(l) != links || e != api.OK || !slices.IsSortedFunc(l, func(a, b api.Name) int { return strings.Compare(a.Name, b.Name) }) {
		t.Errorf("List = %d names, %d", len(l), e)
	}
	for i, n := range l {
		if a, e := s.Stat(2); n.Ino != 2 || a.Links != links-i || e != api.OK {
			t.Fatalf("%+v is one of %+v, %d; want %d links", n, a, e, links-i)
		}
		if e := x.Unlink(n.Name); e != api.OK {
			t.Fatalf("Unlink(%q) tells %d", n.Name, e)
		}
	}
	if _, e := s.Stat(2); e != api.ErrNoEnt {
		t.Errorf("a file without names is there: %d", e)
	}
}

// TestUnlink holds what P12.5 says of files: the last name ends one that is not open, and an open one when it is closed.
func TestUnlink(t *testing.T) {
	h := hold(t, 6, 2)
	h.done("dir d", "file d/f", "link d/f g", "file h")
	h.open(4)
	h.done("unlink d/f")
	h.isNone(api.ErrNoEnt, "d/f")
	h.is(3, "g")
	h.counts(3, 1, 0)
	h.done("unlink /d/.././h")
	h.isNone(api.ErrNoEnt, "h")
	h.counts(4, 0, 1)
	h.check()
	h.whole()
	h.made("h", api.KFile, 5) // the open one still has its number
	h.open(3)
	h.open(3)
	h.done("unlink ../g")
	h.counts(3, 0, 2)
	h.shut(3)
	h.counts(3, 0, 1)
	h.check()
	h.whole()
	h.shut(3)
	h.isGone(3)
	h.made("g", api.KDir, 3)
	h.shut(4)
	h.made("d/f", api.KFile, 4)
	h.check()
	h.whole()
	h.must(h.unlink("g"), api.ErrIsDir)
	h.must(h.unlink("d/f/"), api.ErrNotDir)
	h.must(h.unlink("none"), api.ErrNoEnt)
	h.must(h.unlink("none/"), api.ErrNoEnt)
	h.check()
}

// TestRmdir holds what P12.5 says of directories.
func TestRmdir(t *testing.T) {
	h := hold(t, 9, 2)
	h.done("dir d", "dir d/e", "dir d/e/v", "file d/f", "file h")
	for p, e := range map[string]api.Errno{
		"/": api.ErrArg, "//": api.ErrArg, ".": api.ErrArg, "d/.": api.ErrArg, "d/e/v/./": api.ErrArg, "..": api.ErrNotEmpty, "d/..": api.ErrNotEmpty, "d/e/v/../": api.ErrNotEmpty,
		"d": api.ErrNotEmpty, "d/": api.ErrNotEmpty, "d/e": api.ErrNotEmpty, "h": api.ErrNotDir, "h/": api.ErrNotDir, "d/f": api.ErrNotDir, "x": api.ErrNoEnt, "x/": api.ErrNoEnt, "x/.": api.ErrNoEnt, "h/.": api.ErrNotDir, "h/..": api.ErrNotDir,
	} {
		h.must(h.rmdir(p), e)
	}
	h.check()
	h.done("rmdir d/e/v/")
	h.isNone(api.ErrNoEnt, "d/e/v", "d/e/v/..")
	h.isGone(4)
	h.done("rmdir /d//e")
	h.must(h.rmdir("d"), api.ErrNotEmpty)
	h.done("rename d/f f", "rmdir ./d")
	h.isGone(2)
	h.check()
	h.whole()
	h.made("d", api.KDir, 2) // what is made anew has none of the old names
	if l, e := h.list("d"); len(l) != 0 || e != api.OK {
		t.Errorf("a new directory has %v, %d", l, e)
	}
	h.open(2) // a directory that is open stays in the store, without its name
	h.done("rmdir d")
	h.counts(2, 0, 1)
	h.isNone(api.ErrNoEnt, "d")
	h.made("d", api.KDir, 3)
	h.check()
	h.whole()
	h.shut(2)
	h.isGone(2)
	h.check()
}

// TestRename holds P12.6 where nothing has the new name.
func TestRename(t *testing.T) {
	h := town(t)
	h.done("rename h x")
	h.is(8, "x", "d/k", "l")
	h.isNone(api.ErrNoEnt, "h")
	h.counts(8, 3, 0)
	h.done("rename x /v/./y", "rename v/y w/../d/e/v/x")
	h.is(8, "d/e/v/x")
	h.check()
	h.whole()
	h.done("rename d/e w/e/") // with all that lies below it
	h.is(4, "w/e", "w/e/v/..")
	h.is(7, "w/e/..", "w/e/v/../..")
	h.is(1, "w/e/../..")
	h.is(8, "w/e/v/x")
	h.is(10, "w/e/m")
	h.isNone(api.ErrNoEnt, "d/e", "d/e/v/x", "d/e/..")
	h.check()
	h.whole()
	h.done("rename w d/w", "rename d/w/e e")
	h.is(7, "d/w", "d/w/.")
	h.is(1, "e/..", "d/w/../..")
	h.done("rmdir d/w/")
	h.check()
	h.whole()
	h.done("rename e/v v/v", "rename v e/v", "rename e/v/v/x e/x") // a directory moves below what it lay beside
	h.is(9, "e/v/v")
	h.is(6, "e/v/v/..")
	h.is(8, "e/x")
	h.check()
	h.whole()
}

// TestSame holds that a name of the same inode is no change, be it the same name or another one.
func TestSame(t *testing.T) {
	h := town(t)
	before := h.m.text()
	h.done("rename h h", "rename h l", "rename l d/k", "rename d/k h", "rename m d/e/m", "rename d/e/../f ./d/f",
		"rename d d", "rename d/ d", "rename d /d/", "rename d/ ./d//", "rename d/e d/e", "rename d/e/v d/e/../e/v", "rename d v/../d", "rename d d/../d", "rename d/e d/e/v/../../e", "rename v v")
	if h.m.text() != before {
		t.Errorf("%s has become %s", before, h.m.text())
	}
	h.check()
	h.whole()
	h.must(h.rename("h/", "h"), api.ErrNotDir)
	h.must(h.rename("h", "h/"), api.ErrNotDir)
	h.must(h.rename("h", "l/"), api.ErrNotDir)
	h.must(h.rename("d/.", "d/."), api.ErrArg)
	h.must(h.rename("d/..", "d/.."), api.ErrArg)
	h.must(h.rename("/", "/"), api.ErrArg)
	h.must(h.rename("x", "x"), api.ErrNoEnt)
	h.check()
}

// TestOver holds what becomes of the inode to which the new name referred before.
func TestOver(t *testing.T) {
	h := town(t)
	h.done("rename d/f m") // m has another name
	h.is(3, "m")
	h.is(10, "d/e/m")
	h.counts(10, 1, 0)
	h.counts(3, 1, 0)
	h.isNone(api.ErrNoEnt, "d/f")
	h.check()
	h.whole()
	h.done("rename m d/e/m") // that was its last
	h.is(3, "d/e/m")
	h.isGone(10)
	h.made("m", api.KFile, 10)
	h.open(10)
	h.open(5)
	h.done("rename d/e/g m") // an open file takes the place of an open file
	h.is(5, "m")
	h.counts(10, 0, 1)
	h.counts(5, 1, 1)
	h.check()
	h.whole()
	h.shut(10)
	h.isGone(10)
	h.done("rename l m")
	h.counts(8, 3, 0)
	h.counts(5, 0, 1)
	h.shut(5)
	h.isGone(5)
	h.check()
	h.done("rename v w") // a directory takes the place of one without names
	h.is(6, "w")
	h.isGone(7)
	h.done("rename d/e w/")
	h.is(4, "w")
	h.is(1, "w/..", "w/v/../..")
	h.isGone(6)
	h.done("rename w/v d/n", "rename d/n w/../w/n", "dir v", "rename w/ v")
	h.is(9, "v/n")
	h.is(4, "v", "v/n/..")
	h.check()
	h.whole()
	h.done("dir w", "rename v/n w/n")
	h.must(h.rename("w/n", "w"), api.ErrNotEmpty)
	h.must(h.rename("w", "m"), api.ErrNotDir)
	h.must(h.rename("m", "w"), api.ErrIsDir)
	h.check()
	h.whole()
}

// TestInto holds that a directory is never moved into itself or below itself, however deep.
func TestInto(t *testing.T) {
	const deepest = 100
	h := hold(t, deepest+1, 2)
	for deep := 1; deep < deepest; deep++ {
		h.made(strings.Repeat("/a", deep), api.KDir, deep+1)
	}
	h.made(strings.Repeat("/a", deepest-1)+"/f", api.KFile, deepest+1)
	for top := 1; top < deepest; top++ {
		from := strings.Repeat("/a", top)
		for deep := top; deep < deepest; deep++ {
			to := strings.Repeat("/a", deep)
			h.must(h.rename(from, to+"/x"), api.ErrArg)
			h.must(h.rename(from+"/", to+"/../"+to[1:2]+"/x/"), api.ErrArg)
			if deep < deepest-1 { // what has the name already is told first
				h.must(h.rename(from, to+"/a"), api.ErrNotEmpty)
			} else {
				h.must(h.rename(from, to+"/f"), api.ErrNotDir)
			}
		}
		h.must(h.rename(from, from+"/../x/"), api.OK) // beside itself it may go
		h.must(h.rename(above(from)+"/x", from), api.OK)
	}
	h.check()
	h.whole()
	last := strings.Repeat("/a", deepest-1)
	h.must(h.unlink(last+"/f"), api.OK)
	for top := 1; top < deepest-1; top++ { // one without names may be replaced, but not by what it lies in
		h.must(h.rename(strings.Repeat("/a", top), last), api.ErrArg)
	}
	h.check()
}

// TestList holds P12.7: names in ascending bytewise order, each with its inode and kind, in new memory.
func TestList(t *testing.T) {
	h := hold(t, 40, 2)
	order := []string{"\x01", " ", "!", "-", "...", ".a", "0", "1", "10", "1a", "2", "A", "Z", "_", "a", "a!", "a.", "a0", "aa", "aaa", "ab", "b", "~", "\x7f", "\x80", "é", "ü", "日", "\xff", "\xff\x01", "\xff\xff"}
	for _, i := range rand.New(rand.NewSource(1)).Perm(len(order)) {
		kind := 1 + i%2
		if _, e := h.make(order[i], kind); e != api.OK {
			t.Fatalf("Make(%q) tells %d", order[i], e)
		}
	}
	for _, p := range []string{"/", ".", "..", "//", "./", "A/..", "A/../"} {
		l, e := h.list(p)
		if e != api.OK || len(l) != len(order) {
			t.Fatalf("List(%q) = %v, %d", p, l, e)
		}
		for i, n := range l {
			if n.Name != order[i] || n.Kind != 1+i%2 {
				t.Errorf("name %d is %+v; want %q", i, n, order[i])
			}
			h.is(n.Ino, n.Name, "/"+n.Name)
			l[i] = api.Name{Name: "spoilt", Ino: 99, Kind: 9} // the next List must not tell this
		}
		spare := l[:cap(l)]
		for i := range spare {
			spare[i].Ino = 77
		}
		_ = append(l, api.Name{Name: "more"})
		_ = append(l[:3], api.Name{Name: "more"})
	}
	h.check()
	a, _ := h.list("/")
	b, _ := h.list("/")
	a[0].Ino = 99
	if b[0].Ino == 99 {
		t.Errorf("two lists share their memory")
	}
	h.done("file A/x") // a list stays as it was
	h.must(h.unlink("\x01"), api.OK)
	if len(b) != len(order) || b[0].Name != "\x01" {
		t.Errorf("a list has become %v", b)
	}
	for p, e := range map[string]api.Errno{" ": 0, "A/x": api.ErrNotDir, "A/x/": api.ErrNotDir, "A/x/.": api.ErrNotDir, "A/y": api.ErrNoEnt, "A/y/": api.ErrNoEnt, "none": api.ErrNoEnt, "none/..": api.ErrNoEnt, "A/./": 0} {
		if l, ge := h.list(p); ge != e || e != api.OK && l != nil {
			t.Errorf("List(%q) = %v, %d; want error %d", p, l, ge, e)
		}
	}
}

// packed is town with no inode left.
func packed(t *testing.T) *held {
	t.Helper()
	h := town(t)
	h.done("file p", "file q", "file r")
	h.must(h.do("file", "n"), api.ErrNoSpc)
	return h
}

// TestOrder holds which error is told where several apply, and that nothing has changed then.
func TestOrder(t *testing.T) {
	const ok = api.OK
	for _, c := range []struct {
		call, cases string
		want        api.Errno
	}{
		{"file", "/ // . .. ./ ../ d/. d/.. d/e/../ v/./ d d/ /d v/ h h/ d/f d/f/ d/e/v/", api.ErrExist},
		{"dir", "/ // . .. ./ ../ d/. d/.. d/e/../ v/./ d d/ /d v/ h h/ d/f d/f/ d/e/v/", api.ErrExist},
		{"file", "x/. x/.. x/n x/n/ d/x/. d/x/n/ v/d/f", api.ErrNoEnt},
		{"dir", "x/. x/.. x/n x/n/ d/x/. d/x/n/ v/d/f", api.ErrNoEnt},
		{"file", "h/. h/.. h/n h/n/ h/n/. d/f/./n d/f/../n d/e/g/../..", api.ErrNotDir},
		{"dir", "h/. h/.. h/n h/n/ h/n/. d/f/./n d/f/../n d/e/g/../..", api.ErrNotDir},
		{"file", "n/ d/n/ v//n// d/../n/", api.ErrIsDir},
		{"file", "n d/n v//n d/../n", api.ErrNoSpc},
		{"dir", "n d/n v//n d/../n n/ d/n/ v//n//", api.ErrNoSpc},
		{"link", "x,/ x,d x,x x/y,d/. x/,h d/x,x/y x/..,.", api.ErrNoEnt},
		{"link", "h/,/ h/.,d h/..,x h/n,x/y d/f/,n d/k/,n/", api.ErrNotDir},
		{"link", "d,/ d/,x/y /,/ .,h ..,h/n v,n d/e,d/n v/.,n d/..,n/ d,d", api.ErrPerm},
		{"link", "h,/ h,. h,.. h,d/. h,d/.. h,d/../ h,d h,d/ h,h h,h/ h,l h,l/ m,d/e/m d/f,d/f d/f,v/ h,p/", api.ErrExist},
		{"link", "h,x/n h,x/. h,x/.. h,d/x/n/ m,v/x/n", api.ErrNoEnt},
		{"link", "h,l/n h,m/. h,m/.. h,h/n h,d/f/n/ m,m/x/n", api.ErrNotDir},
		{"link", "h,n/ d/k,d/n/ m,n/ d/f,v/../n//", api.ErrIsDir},
		{"link", "h,n d/k,d/n l,./v/n", api.ErrMLink},
		{"link", "m,n d/f,n d/e/g,/v/../n d/e/m,d/e/v/n", ok},
		{"unlink", "/ // . .. ./ ../ d/. d/.. d/./ d/e/../ v/. d d/ v v/ d/e d/e/v/ d/../v", api.ErrIsDir},
		{"unlink", "x/. x/.. x/n x/n/ x x/ d/x d/x/ v/h", api.ErrNoEnt},
		{"unlink", "h/. h/.. h/n h/n/ h/n/. d/f/../f h/ d/e/g/ m//", api.ErrNotDir},
		{"unlink", "h d/k ./l m d/../d/e/m d/f /d//e/g d/e/v/../g", ok},
		{"rmdir", "/ // . ./ d/. d/./ v/. v/./ d/e/.", api.ErrArg},
		{"rmdir", ".. ../ d/.. v/.. v/../ d/e/.. d d/ d/e d/e/ d/e/../../d", api.ErrNotEmpty},
		{"rmdir", "x/. x/.. x/n x/n/ x x/ d/x d/x/ v/h", api.ErrNoEnt},
		{"rmdir", "h/. h/.. h/n h/n/ h h/ d/f d/f/ d/f/../e/v d/e/m/", api.ErrNotDir},
		{"rmdir", "v v/ /w d/e/v ./d/e/../e/v/", ok},
		{"rename", "/,x/y /,h/y x/y,/ h/y,/ /,/ h,/ /,h none,/ d,/ //,n .,/ d/f/g,//", api.ErrArg},
		{"rename", "x/y,h/y x/y,. x/y,h x/..,. h,x/y none,x/y h,x/. .,x/y d,x/d d,x/.. ..,x/n/ h/,x/n/", api.ErrNoEnt},
		{"rename", "h/y,x/y h/y,. h/.,. h/..,h h,l/y none,h/y .,h/y d/..,h/. h,m/. d,h/d d/f/..,n", api.ErrNotDir},
		{"rename", "none,. none,d/.. .,none d/..,h d/.,v h,. h/,. h/,.. h,d/e/.. .,. ..,.. d,. d,.. d/e,d/. d/e,d/e/v/.. d/e,d/e/.. v,d/. none/,./", api.ErrArg},
		{"rename", "none,h none/,h/ none,none none,d none,d/ none,n/ d/x,v d/h,d/f x,d/n", api.ErrNoEnt},
		{"rename", "h/,n h,n/ h/,d h,d/ h,v/ h/,v/ h/,h h,h/ h,l/ d/f/,m d/f,m/ d/f,v/n/", api.ErrNotDir},
		{"rename", "h,h h,l d/k,l m,d/e/m d,d d/,d d,d/ d/e,d/e/v/../../e v,v d/f,./d//f", ok}, // the same inode
		{"rename", "h,d h,v d/f,d d/e/g,d/e d/e/g,d h,d/e/v", api.ErrIsDir},
		{"rename", "d,h d,h/ d/,h d,d/f d,d/f/ d/e,d/e/g d/e,d/k v,h/ v,p", api.ErrNotDir},
		{"rename", "v,d v/,d/ d,d/e d/e,d d/e/v,d/e d/e/v,d w,d/e", api.ErrNotEmpty},
		{"rename", "d,d/n d,d/n/ d,d/e/n d,d/e/v/n d,d/e/v d/,d/e/v/ v,v/n v,v/v d/e,d/e/n d/e,d/e/v d,v/../d/n w,d/../w/n", api.ErrArg},
		{"rename", "h,n h,m h,d/f h,p m,d/e/g d,n d,n/ d/,n d,v d,v/ d/,w d,w/n d/e,n d/e,v d/e/v,v v,d/e/v v,d/e/n d/f,d/e/f d/e,d/n", ok},
	} {
		for _, paths := range strings.Fields(c.cases) {
			h := packed(t)
			before := h.m.text()
			if e := h.do(c.call, strings.Split(paths, ",")...); e != c.want {
				t.Errorf("%s %s tells %d; want %d", c.call, paths, e, c.want)
			}
			if c.want != ok && h.m.text() != before {
				t.Errorf("%s %s has changed %s into %s", c.call, paths, before, h.m.text())
			}
			h.check()
			h.whole()
		}
	}
}

// TestMatrix makes each call with each of many paths, or with each two of them, on a tree that has some inodes left and on one that has none.
func TestMatrix(t *testing.T) {
	paths := strings.Fields("/ . .. ./ d/.. h/.. x/.. d/. h/. x/. h h/ l p d d/ d/../d d/f d/f/ d/e d/e/ d/e/g d/e/v d/e/v/ d/e/m v v/ /v/. w v/n v/n/ n n/ d/n d/n/ d/e/n d/e/v/n x/n h/n d/f/g ../m d//../m/")
	for _, fresh := range []func(t *testing.T) *held{town, packed} {
		h := fresh(t)
		try := func(call string, p ...string) {
			before := h.m.text()
			e := h.do(call, p...)
			h.check()
			if h.m.text() != before {
				if e != api.OK {
					t.Fatalf("%s %q has made a change", call, p)
				}
				h.whole()
				h = fresh(t)
			}
		}
		for _, p := range paths {
			for _, call := range single {
				try(call, p)
			}
			for _, q := range paths {
				for _, call := range double {
					try(call, p, q)
				}
			}
		}
	}
}

// TestStates makes each of some calls in every state to which they lead, from the root alone on.
func TestStates(t *testing.T) {
	paths := []string{"a", "b", "a/a", "a/b", "b/a/", "a/b/../../b/b", "a/a/a"}
	var calls [][]string
	for _, p := range paths {
		for _, call := range single[:4] {
			calls = append(calls, []string{call, p})
		}
		for _, q := range paths {
			for _, call := range double {
				calls = append(calls, []string{call, p, q})
			}
		}
	}
	replay := func(history []int) *held {
		h := hold(t, 4, 2)
		for _, i := range history {
			h.must(h.do(calls[i][0], calls[i][1:]...), api.OK)
		}
		return h
	}
	known := map[string]int{newModel(api.Caps{}).text(): 1}
	states := [][]int{nil}
	for at := 0; at < len(states); at++ {
		h := replay(states[at])
		for i, c := range calls {
			before := h.m.text()
			e := h.do(c[0], c[1:]...)
			if h.m.text() == before {
				continue
			}
			h.must(e, api.OK)
			h.check()
			h.whole()
			if history := append(slices.Clone(states[at]), i); known[h.m.text()] == 0 {
				known[h.m.text()] = 1
				states = append(states, history)
			}
			h = replay(states[at])
		}
		h.check()
		h.whole()
	}
	t.Logf("%d states", len(states))
}

// walker makes random paths of a tree.
type walker struct {
	*rand.Rand
	h *held
}

// pick is one of some texts.
func (w walker) pick(texts []string) string {
	return texts[w.Intn(len(texts))]
}

// name is a name that a directory may well have, or one that none has.
func (w walker) name() string {
	if w.Intn(12) == 0 {
		return w.pick([]string{".", "..", "..", "...", "\xff", strings.Repeat("x", 32)})
	}
	return w.pick([]string{"a", "b", "c", "d"})
}

// way is one that there is in the tree, without what begins it.
func (w walker) way() string {
	return strings.TrimPrefix(w.pick(slices.Sorted(maps.Keys(w.h.m.ways))), "/")
}

// path is a way that there is, or a name more, or names at random, with dots and slashes thrown in.
func (w walker) path() string {
	var parts []string
	if w.Intn(8) > 0 {
		parts = strings.Split(w.way(), "/")
	}
	for range []int{0, 0, 0, 1, 1, 1, 1, 2}[w.Intn(8)] {
		parts = append(parts, w.name())
	}
	p := w.pick([]string{"", "", "/", "//"})
	for i, part := range parts {
		switch w.Intn(25) {
		case 0:
			p += "./"
		case 1:
			p += "../"
		case 2:
			p += w.name() + "/../"
		case 3:
			p += "/"
		}
		p += part
		if i < len(parts)-1 {
			p += "/"
		}
	}
	return p + w.pick([]string{"", "", "", "", "", "", "/", "//", "/.", "/.."})
}

// act makes a random call.
func (w walker) act() {
	h := w.h
	switch call := w.Intn(18); {
	case call < 3:
		h.do("dir", w.path())
	case call < 6:
		h.do("file", w.path())
	case call < 8:
		h.link(w.path(), w.path())
	case call < 9:
		h.unlink(w.path())
	case call < 11:
		h.rmdir(w.path())
	case call < 15:
		h.rename(w.path(), w.path())
	case call < 16:
		h.list(w.path())
	case call < 17:
		s := h.s.All()
		h.open(s[w.Intn(len(s))].Ino)
	default:
		if open := slices.Sorted(maps.Keys(h.m.opens)); len(open) > 0 {
			h.shut(open[w.Intn(len(open))])
		}
	}
}

// TestRandom holds long runs of random calls against the model, and P12.8 after each of them.
func TestRandom(t *testing.T) {
	for seed := range 60 {
		h := hold(t, []int{1, 2, 3, 5, 8, 12}[seed%6], 1+seed%4)
		w := walker{rand.New(rand.NewSource(int64(seed))), h}
		for range 500 {
			w.act()
			h.check()
			h.whole()
		}
	}
	h := hold(t, 60, 5)
	w := walker{rand.New(rand.NewSource(99)), h}
	for i := range 20000 {
		w.act()
		if i%100 == 0 {
			h.check()
		}
	}
}

// dump is all that can be seen of a tree and its store.
func (h *held) dump() string {
	h.t.Helper()
	var out []string
	for _, x := range search(h.t, h.x) {
		back := 0
		if len(x.path) < 250 {
			back, _ = h.x.Find(x.path + "/..")
		}
		l, _ := h.x.List(x.path)
		out = append(out, fmt.Sprint(x, l, back))
	}
	return fmt.Sprint(out, h.s.All())
}

// TestBack holds that what is renamed and renamed back stands as before, for every name of many trees, to new names in all directories.
func TestBack(t *testing.T) {
	for seed := range 60 {
		h := hold(t, 12, 3)
		w := walker{rand.New(rand.NewSource(int64(seed))), h}
		for range 200 {
			w.act()
		}
		ways := slices.Sorted(maps.Keys(h.m.ways))
		before := h.dump()
		for _, from := range ways[1:] {
			for _, dir := range ways {
				to := dir + "/new"
				if !h.m.isDir(dir) || h.m.isDir(from) && inside(dir, from) {
					continue
				}
				h.must(h.rename(from, to), api.OK)
				h.isNone(api.ErrNoEnt, from)
				h.is(h.m.ways[to], to)
				h.check()
				h.whole()
				h.must(h.rename(to, from), api.OK)
				if got := h.dump(); got != before {
					t.Fatalf("%q was %q meanwhile, and %s has become %s", from, to, before, got)
				}
			}
		}
	}
}

// TestBeyond holds that directories may lie deeper than a path leads: what lies there is found again as soon as it lies higher.
func TestBeyond(t *testing.T) {
	const deepest = 1500
	s, _ := inode.New(api.Caps{Inodes: deepest + 2, Bytes: 9, Links: 1})
	x, _ := names.New(s)
	demand := func(e api.Errno) {
		t.Helper()
		if e != api.OK {
			t.Fatalf("the answer is %d", e)
		}
	}
	find := func(n int, p string) {
		t.Helper()
		if got, e := x.Find(p); got != n || e != api.OK {
			t.Fatalf("Find(%q) = %d, %d; want %d", p, got, e, n)
		}
	}
	x.Make("a", api.KDir)
	x.Make("a/f", api.KFile)
	demand(s.Write(3, 0, "deep"))
	for n := 4; n <= deepest+2; n++ { // the directories lie in one another, each in the one that was made next
		x.Make("b", api.KDir)
		demand(x.Rename("a", "b/a"))
		demand(x.Rename("b", "a"))
		find(n, "a")
		find(n, "a/a/..")
	}
	for deep := 1; deep < 127; deep++ {
		p := strings.Repeat("a/", deep)
		find(deepest+3-deep, p)
		find(deepest+3-deep, p+"a/..")
		if e := x.Rename("a", p+"b"); e != api.ErrArg {
			t.Fatalf("Rename of a directory to %d below itself tells %d", deep, e)
		}
		if e := x.Rmdir(p); e != api.ErrNotEmpty {
			t.Fatalf("Rmdir at %d tells %d", deep, e)
		}
	}
	for n := deepest + 2; n >= 4; n-- {
		find(n, "a")
		demand(x.Rename("a/a", "b"))
		demand(x.Rmdir("a"))
		demand(x.Rename("b", "a"))
	}
	find(2, "a")
	find(3, "a/f")
	if d, e := s.Read(3, 0, 9); d != "deep" || e != api.OK || len(s.All()) != 3 {
		t.Errorf("the deepest file is %q, %d, of %d inodes", d, e, len(s.All()))
	}
}

// TestArguments holds that no text is kept that was handed in: its bytes may become others.
func TestArguments(t *testing.T) {
	s, _ := inode.New(api.Caps{Inodes: 9, Links: 3})
	x, _ := names.New(s)
	handed := func(call func(p string)) {
		b := []byte("/dir/../name")
		call(unsafe.String(&b[0], len(b)))
		for i := range b {
			b[i] = 'x'
		}
	}
	demand := func(want ...string) {
		t.Helper()
		l, _ := x.List("/")
		for i, n := range l {
			if i >= len(want) || n.Name != want[i] {
				t.Errorf("the names are %v; want %v", l, want)
			}
			if got, e := x.Find(n.Name); got != n.Ino || e != api.OK {
				t.Errorf("Find(%q) = %d, %d; want %d", n.Name, got, e, n.Ino)
			}
		}
	}
	x.Make("dir", api.KDir)
	handed(func(p string) { x.Make(p, api.KDir) })
	demand("dir", "name")
	x.Rmdir("name")
	handed(func(p string) { x.Make(p, api.KFile) })
	demand("dir", "name")
	x.Rename("name", "other")
	handed(func(p string) { x.Link("other", p) })
	demand("dir", "name", "other")
	x.Unlink("name")
	handed(func(p string) { x.Rename("other", p) })
	demand("dir", "name")
	handed(func(p string) { x.Rename(p, "other") })
	demand("dir", "other")
	x.Make("name", api.KFile)
	handed(func(p string) { x.Rename("other", p) }) // over a name that there is
	demand("dir", "name")
	handed(func(p string) { x.Unlink(p) })
	demand("dir")
}

// TestStrangers holds that every call ends, and has nothing beside its error, whatever others do to the store meanwhile.
func TestStrangers(t *testing.T) {
	for seed := range 30 {
		h := hold(t, 2+seed%9, 1+seed%3)
		w := walker{rand.New(rand.NewSource(int64(seed))), h}
		path := func() string {
			parts := make([]string, 1+w.Intn(4))
			for i := range parts {
				parts[i] = w.name()
			}
			return strings.Join(parts, "/")
		}
		for range 4000 {
			p, q, n := path(), path(), w.Intn(h.m.caps.Inodes+2)
			ino, many, e := 0, 0, api.OK
			switch w.Intn(14) {
			case 0:
				h.s.Unlink(n)
			case 1:
				h.s.Link(n)
			case 2:
				h.s.Open(n)
			case 3:
				h.s.Close(n)
			case 4:
				h.s.Make(1 + n%2)
			case 5:
				ino, e = h.x.Find(p)
			case 6:
				e = h.x.Link(p, q)
			case 7:
				e = h.x.Unlink(p)
			case 8:
				e = h.x.Rmdir(p)
			case 9:
				l, le := h.x.List(p)
				many, e = len(l), le
			case 10, 11:
				ino, e = h.x.Make(p, 1+n%2)
			default:
				e = h.x.Rename(p, q)
			}
			if e != api.OK && (ino != 0 || many != 0) {
				t.Fatalf("beside error %d stand %d and %d names", e, ino, many)
			}
		}
	}
}
