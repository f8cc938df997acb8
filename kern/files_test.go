package kern_test

import (
	"fmt"
	"math/rand"
	"strings"
	"testing"

	"hayward/api"
)

// P17.1: N and S of the replies of SFile's calls, byte by byte, and their errors in order.
func TestFileReplies(t *testing.T) {
	h := hold(t, 1, some)
	want(t, h.with(1, api.COpen, []string{"f"}, 7), api.Reply{})
	want(t, h.with(1, api.COpen, []string{"f"}, 35), api.Reply{N: 1})
	want(t, h.with(1, api.CWrite, []string{"a\x00\xff"}, 0), api.Reply{N: 3})
	want(t, h.with(1, api.CWrite, []string{""}, 0), api.Reply{})
	want(t, h.call(1, api.CSeek, 0, 300, 0), api.Reply{N: 300})
	want(t, h.with(1, api.CWrite, []string{"xyz"}, 0), api.Reply{N: 3})
	want(t, h.with(1, api.CWrite, []string{"!"}, 1), api.Reply{N: 1}) // it appends
	want(t, h.call(1, api.CStat, 0), api.Reply{N: 2, S: "\x01" + zeros(7) + "\x01" + zeros(7) + "\x02" + zeros(7) + "\x30\x01" + zeros(6) + "\x07" + zeros(7)})
	want(t, h.call(1, api.CSeek, 0, -304, 1), api.Reply{Code: api.ErrArg})
	want(t, h.call(1, api.CSeek, 0, -303, 1), api.Reply{})
	want(t, h.call(1, api.CRead, 0, 5), api.Reply{N: 5, S: "a\x00\xff\x00\x00"})
	want(t, h.call(1, api.CRead, 0, 0), api.Reply{})
	want(t, h.call(1, api.CSeek, 0, -2, 2), api.Reply{N: 302})
	want(t, h.call(1, api.CRead, 0, greatest), api.Reply{N: 2, S: "z!"})
	want(t, h.call(1, api.CDup, 1), api.Reply{N: 2})
	want(t, h.call(1, api.CClose, 1), api.Reply{})
	want(t, h.call(1, api.CDup, 0), api.Reply{N: 1})
	want(t, h.call(1, api.CTrunc, 0, 5), api.Reply{})
	want(t, h.with(1, api.CMkdir, []string{"d"}), api.Reply{N: 3})
	want(t, h.with(1, api.CMkdir, []string{"/d/\xfe"}), api.Reply{N: 4})
	want(t, h.with(1, api.CLink, []string{"f", "d/e"}), api.Reply{})
	want(t, h.with(1, api.CList, []string{"d"}), api.Reply{N: 2, S: "\x01\x00\x00\x00e\x02" + zeros(7) + "\x01" + zeros(7) + "\x01\x00\x00\x00\xfe\x04" + zeros(7) + "\x02" + zeros(7)})
	want(t, h.with(1, api.CList, []string{"d/\xfe/"}), api.Reply{})
	want(t, h.with(1, api.CRename, []string{"d/\xfe", "d/ab"}), api.Reply{})
	want(t, h.with(1, api.CList, []string{"d/../d/."}), api.Reply{N: 2, S: lettered("ab") + numbered(4, 2) + lettered("e") + numbered(2, 1)})
	want(t, h.with(1, api.CUnlink, []string{"d/e"}), api.Reply{})
	want(t, h.with(1, api.CRmdir, []string{"d/ab"}), api.Reply{})
	want(t, h.call(1, api.KClone, 5), api.Reply{})
	want(t, h.call(5, api.CRead, 0, 1), api.Reply{})
	want(t, h.call(5, api.KDropF), api.Reply{})
	refused(t, h.call(5, api.KDropF), api.ErrSrch)
}

func zeros(n int) string { return strings.Repeat("\x00", n) }

// P17.1: errors of SFile's calls.
func TestFileErrors(t *testing.T) {
	h := lived(t, 1)
	for _, c := range []struct {
		c api.Call
		e api.Errno
	}{
		{api.Call{No: api.COpen, N: [3]int64{8}, S: [2]string{"f"}}, api.ErrArg},
		{api.Call{No: api.COpen, N: [3]int64{1 + 1<<32}, S: [2]string{"f"}}, api.ErrArg},
		{api.Call{No: api.COpen, N: [3]int64{1}, S: [2]string{"x"}}, api.ErrNoEnt},
		{api.Call{No: api.COpen, N: [3]int64{13}, S: [2]string{"f"}}, api.ErrExist},
		{api.Call{No: api.COpen, N: [3]int64{1}, S: [2]string{"d"}}, api.ErrIsDir},
		{api.Call{No: api.COpen, N: [3]int64{1}, S: [2]string{"f/"}}, api.ErrNotDir},
		{api.Call{No: api.CClose, N: [3]int64{2}}, api.ErrBadF},
		{api.Call{No: api.CClose, N: [3]int64{1 << 32}}, api.ErrBadF},
		{api.Call{No: api.CDup, N: [3]int64{-1}}, api.ErrBadF},
		{api.Call{No: api.CRead, N: [3]int64{1, 1}}, api.ErrBadF},
		{api.Call{No: api.CRead, N: [3]int64{0, -1}}, api.ErrArg},
		{api.Call{No: api.CWrite, N: [3]int64{0}, S: [2]string{strings.Repeat("x", 101)}}, api.ErrNoSpc},
		{api.Call{No: api.CWrite, N: [3]int64{0}, S: [2]string{strings.Repeat("x", full)}}, api.ErrFBig},
		{api.Call{No: api.CSeek, N: [3]int64{0, 0, 3}}, api.ErrArg},
		{api.Call{No: api.CSeek, N: [3]int64{0, 0, 1 << 32}}, api.ErrArg},
		{api.Call{No: api.CTrunc, N: [3]int64{0, full + 1}}, api.ErrFBig},
		{api.Call{No: api.CStat, N: [3]int64{64}}, api.ErrBadF},
		{api.Call{No: api.CMkdir, S: [2]string{"d"}}, api.ErrExist},
		{api.Call{No: api.CRmdir, S: [2]string{"d"}}, api.ErrNotEmpty},
		{api.Call{No: api.CLink, S: [2]string{"d", "x"}}, api.ErrPerm},
		{api.Call{No: api.CUnlink, S: [2]string{"d"}}, api.ErrIsDir},
		{api.Call{No: api.CRename, S: [2]string{"d", "d/x"}}, api.ErrArg},
		{api.Call{No: api.CList, S: [2]string{"f"}}, api.ErrNotDir},
		{api.Call{No: api.CList, S: [2]string{""}}, api.ErrNoEnt},
		{api.Call{No: api.KClone, N: [3]int64{0}}, api.ErrArg},
		{api.Call{No: api.KClone, N: [3]int64{least}}, api.ErrArg},
		{api.Call{No: api.KClone, N: [3]int64{2}}, api.ErrExist},
		{api.Call{No: api.KClone, N: [3]int64{1}}, api.ErrExist},
	} {
		if r := h.do(1, c.c); r != (api.Reply{Code: c.e}) {
			t.Errorf("Do(1, %s) = %v; want %d", show(c.c), r, c.e)
		}
		if r := h.do(3, c.c); r != (api.Reply{Code: api.ErrSrch}) {
			t.Errorf("Do(3, %s) = %v; want ErrSrch", show(c.c), r)
		}
	}
}

// P17.1: processes may have any number from 1 on.
func TestProcessesOfFiles(t *testing.T) {
	h := lived(t, 1)
	for _, pid := range []int64{3, 1024, 1025, 1 << 32, 1<<32 + 1, greatest} {
		want(t, h.call(2, api.KClone, pid), api.Reply{})
		want(t, h.call(int(pid), api.CSeek, 0, pid%7, 0), api.Reply{N: pid % 7})
	}
	refused(t, h.call(1, api.KClone, greatest), api.ErrExist)
	want(t, h.call(1, api.KDropF), api.Reply{})
	refused(t, h.call(1, api.CList), api.ErrSrch)
	want(t, h.call(greatest, api.KClone, 1), api.Reply{})
	want(t, h.call(1, api.CSeek, 0, 1, 1), api.Reply{N: greatest%7 + 1})
}

// State: files with holes, up to the longest one.
func TestStateOfHoles(t *testing.T) {
	h := hold(t, 1, capsWith(1, 3000))
	h.with(1, api.COpen, []string{"f"}, 7)
	h.with(1, api.COpen, []string{"g"}, 7)
	for _, at := range []int64{0, 1, 254, 255, 256, 65535, 65536, full - 1} {
		want(t, h.call(1, api.CSeek, 0, at, 0), api.Reply{N: at})
		want(t, h.with(1, api.CWrite, []string{"\xff"}, 0), api.Reply{N: 1})
		want(t, h.call(1, api.CSeek, 1, at/2, 0), api.Reply{N: at / 2})
		want(t, h.with(1, api.CWrite, []string{"\x80"}, 1), api.Reply{N: 1})
	}
	if !strings.Contains(h.s.State(), fmt.Sprintf("\ni 2 1 1 1 1048576 8\nc 2 %d\n", 255*(1+2+255+256+257+65536+65537+full))) {
		t.Errorf("the state is %q", h.s.State())
	}
	h.call(1, api.CSeek, 0, 1000, 0)
	want(t, h.with(1, api.CWrite, []string{strings.Repeat("\xff", 2900)}, 0), api.Reply{N: 2900})
	want(t, h.call(1, api.CTrunc, 0, 1001), api.Reply{})
	want(t, h.call(1, api.CTrunc, 0, full), api.Reply{})
	want(t, h.call(1, api.CTrunc, 1, 0), api.Reply{})
	if !strings.Contains(h.s.State(), "\nc 3 0\n") {
		t.Errorf("the state is %q", h.s.State())
	}
}

// State: the sum goes over all bytes of the longest file.
func TestStateOfAFullFile(t *testing.T) {
	h := hold(t, 1, capsWith(1, full))
	h.with(1, api.COpen, []string{"f"}, 7)
	want(t, h.s.Do(1, api.Call{No: api.CWrite, S: [2]string{strings.Repeat("\xff", full)}}), api.Reply{N: full})
	if s := fmt.Sprintf("\ni 2 1 1 1 1048576 1048576\nc 2 %d\n", uint64(255)*full*(full+1)/2); !strings.Contains(h.s.State(), s) {
		t.Errorf("the state is %q; want %q", h.s.State(), s)
	}
	h.s.Do(1, api.Call{No: api.CSeek})
	if r := h.s.Do(1, api.Call{No: api.CRead, N: [3]int64{0, full}}); r.N != full || r.S != strings.Repeat("\xff", full) {
		t.Errorf("%d, %d, %d bytes are read", r.Code, r.N, len(r.S))
	}
}

// State: names of all lengths and all bytes, and the order of names and of what is below them.
func TestStateOfNames(t *testing.T) {
	h := hold(t, 1, capsWith(0, 400))
	for b := 1; b < 256; b++ {
		if b != '/' && b != '.' {
			h.with(1, api.CMkdir, []string{string([]byte{byte(b)})})
		}
	}
	for n := 2; n <= 32; n++ {
		want(t, h.with(1, api.CMkdir, []string{strings.Repeat("a", n)}), api.Reply{N: int64(253 + n)})
	}
	refused(t, h.with(1, api.CMkdir, []string{strings.Repeat("a", 33)}), api.ErrNameLong)
	for _, p := range []string{"a/x", "a/x/y", "aa/x", "b/\xff", "b/\x01", "a!", "a!/z", "a/x-", "a/x/a"} {
		h.with(1, api.CMkdir, []string{p})
	}
	h.with(1, api.COpen, []string{"a!/f"}, 7)
	want(t, h.with(1, api.CLink, []string{"a!/f", "a/x/f"}), api.Reply{})
	refused(t, h.with(1, api.CLink, []string{"a!/f", "\x01/f"}), api.ErrMLink)
	inOrder(t, h.s.State(), "/a", "/a/x", "/a/x/a", "/a/x/f", "/a/x/y", "/a/x-", "/a!", "/a!/f", "/a!/z", "/aa", "/aa/x", "/aaa")
}

// inOrder demands that a state tells of paths in that order.
func inOrder(t *testing.T, state string, paths ...string) {
	t.Helper()
	last := -1
	for _, p := range paths {
		at := strings.Index(state, fmt.Sprintf("\nn %x ", p))
		if at <= last {
			t.Errorf("%q stands at %d; what is ahead of it at %d", p, at, last)
		}
		last = at
	}
}

// deep is a path with a slash before each name that has so many bytes; each name has 31 bytes, but the last one.
func deep(size int) string {
	p := ""
	for size-len(p) > 33 {
		p += "/" + strings.Repeat("n", 31)
	}
	return p + "/" + strings.Repeat("e", size-len(p)-1)
}

// State: what is below a directory whose path followed by a slash has more than 256 bytes isn't told, whatever its names are; the directory itself is.
func TestStateOfLongPaths(t *testing.T) {
	for size := 250; size <= 257; size++ {
		h := hold(t, 1, capsWith(0, 40))
		p := deep(size)
		for at := range p {
			if at > 0 && p[at] == '/' {
				h.with(1, api.CMkdir, []string{p[1:at]})
			}
		}
		if r := h.with(1, api.CMkdir, []string{p[1:]}); r.Code != api.OK {
			t.Fatalf("a path of %d bytes: %v", size, r)
		}
		for _, name := range []string{"a", "bc", strings.Repeat("d", 32)} {
			if len(p)+len(name) > 256 { // with the slash ahead of the name, and without that ahead of the path
				continue
			}
			if r := h.with(1, api.CMkdir, []string{p[1:] + "/" + name}); r.Code != api.OK {
				t.Fatalf("%q below a path of %d bytes: %v", name, size, r)
			}
		}
		belowLongPath(t, h, p)
	}
}

// belowLongPath moves a directory with a name below one with a long path, by a shorter path to it, and looks whether the name is told.
func belowLongPath(t *testing.T, h *held, p string) {
	t.Helper()
	h.with(1, api.CMkdir, []string{"s"})
	h.with(1, api.CMkdir, []string{"s/t"})
	h.with(1, api.COpen, []string{"s/t/u"}, 7)
	first := strings.Index(p[1:], "/")
	long := p[:1+first]
	want(t, h.with(1, api.CRename, []string{long, "m"}), api.Reply{})
	short := "m" + p[1+first:]
	want(t, h.with(1, api.CRename, []string{"s", short + "/s"}), api.Reply{})
	want(t, h.with(1, api.CRename, []string{"m", long}), api.Reply{})
	s := h.s.State()
	for _, c := range []struct{ dir, name string }{{p, "/s"}, {p + "/s", "/t"}, {p + "/s/t", "/u"}} {
		told := strings.Contains(s, fmt.Sprintf("\nn %x ", c.dir+c.name))
		if told != (len(c.dir)+1 <= 256) {
			t.Errorf("what is below a path of %d bytes: told %v", len(c.dir), told)
		}
	}
	if !strings.Contains(s, fmt.Sprintf("\nn %x ", p)) {
		t.Errorf("a path of %d bytes isn't told", len(p))
	}
}

// paths are many that lead somewhere, and some that can't.
var paths = strings.Split("a b c d d/a d/b d/e d/e/a d/e/f / . .. a/ d/ d/e/ d/.. d/. a/.. /d/../a //d//a x/y a/b d/e/../b  \x00 a\xff ./d d/e/f/g", " ")

// fileCall is a call of SFile.
func fileCall(r *rand.Rand) api.Call {
	nos := []int{1, 1, 1, 2, 3, 4, 4, 5, 5, 5, 6, 6, 7, 8, 9, 9, 10, 11, 11, 11, 11, 12, 12, 13, 13, 14}
	c := api.Call{No: nos[r.Intn(len(nos))]}
	for i := range c.S {
		c.S[i] = paths[[]int{r.Intn(9), r.Intn(9), r.Intn(len(paths))}[r.Intn(3)]]
	}
	if r.Intn(60) == 0 {
		c.S[r.Intn(2)] = strings.Repeat("q/", r.Intn(150)) + strings.Repeat("w", r.Intn(40))
	}
	c.N = [3]int64{int64(r.Intn(5)), int64(r.Intn(60) - 20), int64(r.Intn(3))}
	switch {
	case c.No == api.COpen:
		c.N[0] = []int64{1, 2, 3, 5, 7, 7, 15, 23, 35, 39, int64(r.Intn(70))}[r.Intn(11)]
	case c.No == api.CWrite:
		c.S[0] = strings.Repeat(string([]byte{byte(r.Intn(256))}), r.Intn(12)) + "\x00\xfe"[:r.Intn(3)]
	}
	if r.Intn(25) == 0 {
		c.N[r.Intn(3)] = odd(r)
	}
	return c
}

// odd is a number that most calls refuse.
func odd(r *rand.Rand) int64 {
	return []int64{-1, -2, 1<<20 + 1, 1 << 32, least, greatest, 99}[r.Intn(7)]
}
