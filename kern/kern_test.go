package kern_test

import (
	"fmt"
	"math/rand"
	"slices"
	"strings"
	"testing"

	"hayward/api"
	"hayward/call"
	"hayward/kern"
)

// The signatures are part of the chapter.
var (
	_ func(kind int, c api.Caps) (*kern.Service, api.Errno) = kern.NewService
	_ func(s *kern.Service, pid int, c api.Call) api.Reply  = (*kern.Service).Do
	_ func(s *kern.Service) string                          = (*kern.Service).State
	_ func(no int) int                                      = kern.Route
	_ func(c api.Caps) (*kern.Kernel, api.Errno)            = kern.New
	_ func(k *kern.Kernel, pid int, frame string) string    = (*kern.Kernel).Call
	_ func(k *kern.Kernel, kind int) *kern.Service          = (*kern.Kernel).Service
	_ func(c api.Call) (string, api.Errno)                  = call.Encode
	_ func(s string) (api.Reply, api.Errno)                 = call.DecodeReply
)

// strangePids are numbers that no process of these tests has.
var strangePids = []int{0, -1, -2, 77, 1<<32 + 1, least, least + 1, greatest}

// P17.3: the chapter's examples, by package call's own frames.
func TestExamples(t *testing.T) {
	k, e := kern.New(some)
	if e != api.OK {
		t.Fatal(e)
	}
	ask := func(pid, no int, s string, n ...int64) api.Reply {
		t.Helper()
		c := api.Call{No: no, S: [2]string{s}}
		copy(c.N[:], n)
		f, e := call.Encode(c)
		r, e2 := call.DecodeReply(k.Call(pid, f))
		if e != api.OK || e2 != api.OK {
			t.Fatal(show(c), e, e2)
		}
		return r
	}
	want(t, ask(1, api.COpen, "f", 7), api.Reply{})
	want(t, ask(1, api.CWrite, "abc", 0), api.Reply{N: 3})
	want(t, ask(1, api.CStat, "", 0), api.Reply{N: 2, S: numbered(1, 1, 1, 3, 3)})
	want(t, ask(1, api.CMmap, "", 5000, 3, 0), api.Reply{N: 65536})
	if r := ask(1, api.CWalk, "", 65536, 1); r.Code != api.OK || r.N%4096 != 0 || r.N/4096 >= 40 || r.S != "" {
		t.Errorf("CWalk: %v", r)
	}
	want(t, ask(1, api.CSpawn, "", 0), api.Reply{N: 2})
	s := k.Service(api.SFile).State()
	if !strings.Contains(s, "\nn 2f66 2\n") || !strings.Contains(s, "\np 2\nf 0 2 3 7 2\n") {
		t.Errorf("the state is %q", s)
	}
	want(t, ask(2, api.CExit, "", 7), api.Reply{})
	want(t, ask(1, api.CWait, "", 0), api.Reply{N: 2, S: "\x07\x00\x00\x00\x00\x00\x00\x00"})
	want(t, ask(1, api.CExit, "", 0), api.Reply{Code: api.ErrPerm})
	if r, e := call.DecodeReply(k.Call(1, "abc")); r != (api.Reply{Code: api.ErrArg}) || e != api.OK {
		t.Errorf("a frame of three bytes: %v, %d", r, e)
	}
	want(t, ask(1, api.CNext, ""), api.Reply{N: 1})
}

// P17.3, the words of all calls: each one by a kernel, beside its twins.
func TestEachCall(t *testing.T) {
	h := holdAll(t, some)
	want(t, h.with(1, api.COpen, []string{"f"}, 7), api.Reply{})
	want(t, h.with(1, api.CWrite, []string{"abc"}, 0), api.Reply{N: 3})
	want(t, h.call(1, api.CDup, 0), api.Reply{N: 1})
	want(t, h.call(1, api.CSeek, 1, -2, 2), api.Reply{N: 1})
	want(t, h.call(1, api.CRead, 0, 9), api.Reply{N: 2, S: "bc"})
	want(t, h.call(1, api.CTrunc, 0, 1), api.Reply{})
	want(t, h.call(1, api.CStat, 1), api.Reply{N: 2, S: numbered(1, 1, 1, 1, 1)})
	want(t, h.call(1, api.CClose, 1), api.Reply{})
	want(t, h.with(1, api.CMkdir, []string{"d"}), api.Reply{N: 3})
	want(t, h.with(1, api.CMkdir, []string{"d/e"}), api.Reply{N: 4})
	want(t, h.with(1, api.CLink, []string{"f", "d/g"}), api.Reply{})
	want(t, h.with(1, api.CRename, []string{"d/e", "h"}), api.Reply{})
	want(t, h.with(1, api.CUnlink, []string{"f"}), api.Reply{})
	want(t, h.with(1, api.CList, []string{"d"}), api.Reply{N: 1, S: lettered("g") + numbered(2, 1)})
	want(t, h.with(1, api.CRmdir, []string{"h"}), api.Reply{})
	want(t, h.call(1, api.CMmap, 5000, 3, 0), api.Reply{N: 65536})
	want(t, h.call(1, api.CMunmap, 65536, 1), api.Reply{})
	want(t, h.call(1, api.CMprotect, 69632, 4096, 5), api.Reply{})
	want(t, h.call(1, api.CBrk, 3), api.Reply{})
	want(t, h.call(1, api.CBrk, 1), api.Reply{N: 3})
	if r := h.call(1, api.CWalk, 69633, 4); r.Code != api.OK || r.N%4096 != 1 {
		t.Errorf("CWalk: %v", r)
	}
	want(t, h.call(1, api.CSpawn, 5), api.Reply{N: 2})
	want(t, h.call(2, api.CNice, 1, 19), api.Reply{})
	want(t, h.call(1, api.CNext), api.Reply{N: 2})
	want(t, h.call(1, api.CLoad, 2), api.Reply{N: 0x3FE0000000000000})
	want(t, h.call(2, api.CExit, -7), api.Reply{})
	want(t, h.call(1, api.CWait, 2), api.Reply{N: 2, S: numbered(-7)})
}

// capsWith are the capacities of the examples, but one of them.
func capsWith(which, n int) api.Caps {
	c := some
	*[]*int{&c.Inodes, &c.Bytes, &c.Links, &c.Files, &c.Opens, &c.Procs, &c.Frames}[which] = n
	return c
}

// bounds are those of each capacity.
var bounds = [7][2]int{{1, 4096}, {0, 16777216}, {1, 32768}, {1, 64}, {1, 1024}, {1, 1024}, {1, 65536}}

// made demands that New and NewService of each kind take the capacities, or refuse them.
func made(t *testing.T, c api.Caps, valid bool) {
	t.Helper()
	k, e := kern.New(c)
	if (k != nil) != valid || (e == api.OK) != valid || !valid && e != api.ErrArg {
		t.Fatalf("New(%+v) = %v, %d", c, k, e)
	}
	for kind := 1; kind <= 3; kind++ {
		s, e := kern.NewService(kind, c)
		if (s != nil) != valid || (e == api.OK) != valid || !valid && e != api.ErrArg {
			t.Fatalf("NewService(%d, %+v) = %v, %d", kind, c, s, e)
		}
		if !valid {
			continue
		}
		w := newTwin(kind, c).state()
		if s.State() != w || k.Service(kind).State() != w {
			t.Fatalf("the state of the new service %d is %q, and in a kernel %q; want %q", kind, s.State(), k.Service(kind).State(), w)
		}
	}
	for _, kind := range []int{0, 4, -1, -2, -3, 5, 101, 1<<32 + 1, 1 << 8, least, greatest} {
		if s, e := kern.NewService(kind, c); s != nil || e != api.ErrArg {
			t.Fatalf("NewService(%d, %+v) = %v, %d", kind, c, s, e)
		}
	}
}

// P17.1, P17.3: each capacity at, just below and just above its bounds; whichever kind it is, all of them count.
func TestCapacities(t *testing.T) {
	made(t, some, true)
	made(t, api.Caps{}, false)
	made(t, api.Caps{Inodes: 1, Links: 1, Files: 1, Opens: 1, Procs: 1, Frames: 1}, true)
	made(t, api.Caps{Inodes: 4096, Bytes: 16777216, Links: 32768, Files: 64, Opens: 1024, Procs: 1024, Frames: 65536}, true)
	for which, b := range bounds {
		for _, n := range []int{b[0] - 1, b[0], b[0] + 1, b[1] - 1, b[1], b[1] + 1, 2 * b[1], -1, 1 << 32, 1<<32 + 5, -b[1], least, least + 1, greatest} {
			made(t, capsWith(which, n), b[0] <= n && n <= b[1])
		}
	}
}

// P17.1: the capacities are those that the services keep to.
func TestCapacitiesCount(t *testing.T) {
	h := holdAll(t, api.Caps{Inodes: 3, Bytes: 5, Links: 2, Files: 2, Opens: 3, Procs: 3, Frames: 6})
	h.with(1, api.COpen, []string{"f"}, 7)
	want(t, h.with(1, api.CWrite, []string{"12345"}, 0), api.Reply{N: 5})
	refused(t, h.with(1, api.CWrite, []string{"6"}, 0), api.ErrNoSpc)
	want(t, h.with(1, api.CLink, []string{"f", "g"}), api.Reply{})
	refused(t, h.with(1, api.CLink, []string{"f", "h"}), api.ErrMLink)
	want(t, h.with(1, api.CMkdir, []string{"d"}), api.Reply{N: 3})
	refused(t, h.with(1, api.CMkdir, []string{"e"}), api.ErrNoSpc)
	want(t, h.with(1, api.COpen, []string{"g"}, 1), api.Reply{N: 1})
	refused(t, h.with(1, api.COpen, []string{"g"}, 1), api.ErrMFile)
	want(t, h.call(1, api.CSpawn, 0), api.Reply{N: 2})
	h.call(2, api.CClose, 0)
	h.call(1, api.CClose, 0)
	want(t, h.with(2, api.COpen, []string{"g"}, 1), api.Reply{})
	want(t, h.call(2, api.CClose, 1), api.Reply{})
	want(t, h.with(2, api.COpen, []string{"g"}, 1), api.Reply{N: 1})
	refused(t, h.with(1, api.COpen, []string{"g"}, 1), api.ErrNFile)
	want(t, h.call(2, api.CSpawn, 0), api.Reply{N: 3})
	refused(t, h.call(1, api.CSpawn, 0), api.ErrAgain)
	refused(t, h.call(1, api.CBrk, 1), api.ErrNoMem)
}

// P17.2: every number of the issue, and others of all kinds.
func TestRoute(t *testing.T) {
	for no, w := range map[int]int{
		api.COpen: 1, api.CClose: 1, api.CDup: 1, api.CRead: 1, api.CWrite: 1, api.CSeek: 1, api.CTrunc: 1, api.CStat: 1,
		api.CMkdir: 1, api.CRmdir: 1, api.CLink: 1, api.CUnlink: 1, api.CRename: 1, api.CList: 1, api.KClone: 1, api.KDropF: 1,
		api.CMmap: 2, api.CMunmap: 2, api.CMprotect: 2, api.CBrk: 2, api.CWalk: 2, api.KSpace: 2, api.KDropM: 2,
		api.CSpawn: 0, api.CExit: 0,
		api.CWait: 3, api.CNice: 3, api.CLoad: 3, api.CNext: 3, api.KSpawn: 3, api.KUndo: 3, api.KExit: 3,
	} {
		if got := kern.Route(no); got != w {
			t.Errorf("Route(%d) = %d; want %d", no, got, w)
		}
	}
	for _, no := range numbers() {
		if got := kern.Route(no); got != routeOf(no) {
			t.Errorf("Route(%d) = %d; want %d", no, got, routeOf(no))
		}
	}
}

// numbers are those of all calls, and many that no call has.
func numbers() []int {
	out := []int{255, 256, 257, 1 << 16, 1 << 31, 1<<31 - 1, -1 << 31, 1 << 32, least, least + 1, least + 7, greatest, greatest - 1}
	for no := -110; no <= 210; no++ {
		out = append(out, no)
	}
	for no := 1; no <= 25; no++ {
		out = append(out, no+1<<8, no+1<<32, no|least)
	}
	return out
}

// P17.3: Service answers the same three services again and again, and nil for all other kinds; what one of them does, the kernel has done.
func TestServicesOfAKernel(t *testing.T) {
	h := holdAll(t, some)
	for kind := 1; kind <= 3; kind++ {
		if s := h.k.Service(kind); s == nil || s != h.k.Service(kind) {
			t.Errorf("Service(%d) = %v", kind, s)
		}
	}
	for _, kind := range []int{0, 4, 5, -1, -2, -3, 101, 1<<32 + 1, 257, least, greatest} {
		if s := h.k.Service(kind); s != nil {
			t.Errorf("Service(%d) = %v", kind, s)
		}
	}
	other, _ := kern.New(some)
	fresh := other.Service(1).State() + other.Service(2).State() + other.Service(3).State()
	want(t, h.direct(1, api.KClone, 9), api.Reply{})
	want(t, h.direct(9, api.KSpace), api.Reply{})
	want(t, h.with(9, api.CMkdir, []string{"d"}), api.Reply{N: 2})
	want(t, h.call(9, api.CMmap, 1, 1, 0), api.Reply{N: 65536})
	refused(t, h.call(9, api.CNext), api.ErrSrch)
	want(t, h.direct(1, api.KSpawn, 0), api.Reply{N: 2})
	refused(t, h.with(2, api.CMkdir, []string{"e"}), api.ErrSrch)
	refused(t, h.call(2, api.CBrk, 1), api.ErrSrch)
	want(t, h.call(2, api.CNext), api.Reply{N: 1})
	if s := other.Service(1).State() + other.Service(2).State() + other.Service(3).State(); s != fresh {
		t.Errorf("another kernel has changed: %s", differ(s, fresh))
	}
}

// P17.3: a service by itself and one in a kernel of the same capacities are alike.
func TestServiceAlone(t *testing.T) {
	k, _ := kern.New(some)
	for kind := 1; kind <= 3; kind++ {
		s, _ := kern.NewService(kind, some)
		for _, no := range numbersOf[kind] {
			c := api.Call{No: no, N: [3]int64{7, 3, 1}, S: [2]string{"f", "g"}}
			if a, b := s.Do(1, c), k.Service(kind).Do(1, c); a != b || s.State() != k.Service(kind).State() {
				t.Errorf("Do(1, %s): %v and %v", show(c), a, b)
			}
		}
	}
}

// frames are byte strings of all kinds, most of which are no frames of calls.
func frames() []string {
	out := []string{"abc", strings.Repeat("\xff", 8), numbered(25) + "x", numbered(26), numbered(0), numbered(-1), numbered(1 << 32), numbered(25 + 1<<32), numbered(25 | least)}
	for n := range 33 {
		for _, b := range []string{"\x00", "\x01", "\x02", "\x14", "\x15", "\x19", "\x1a", "e", "\xff"} {
			out = append(out, strings.Repeat(b, n), (b + strings.Repeat("\x00", 40))[:n], (b + strings.Repeat("\x00", 7) + strings.Repeat(b, 40))[:n])
		}
	}
	for no := range 130 {
		for _, rest := range []string{"", numbered(0), numbered(1), lettered("f"), lettered("f") + numbered(7)} {
			if no == 0 || no > 25 {
				out = append(out, numbered(int64(no))+rest)
			}
		}
	}
	for _, n := range []int{longest - 1, longest, longest + 1, longest + 2, 2 * longest, 1 << 20} {
		for _, no := range []int64{0, 1, 5, 9, 20, 21, 25, 26, 101, -1} {
			out = append(out, (numbered(no) + strings.Repeat("\x00", n))[:n], (numbered(no) + strings.Repeat("x", n))[:n])
		}
	}
	return out
}

// P17.3, P17.4: what is no frame is answered with ErrArg or ErrNoSys, and changes nothing; whoever calls.
func TestNoFrames(t *testing.T) {
	h := holdAll(t, some)
	h.with(1, api.COpen, []string{"f"}, 7)
	h.call(1, api.CSpawn, 0)
	tally := map[api.Errno]int{}
	for i, f := range frames() {
		_, e := callOf(f) // a few are frames after all
		r := h.frame([]int{1, 2, 3, 0, -1}[i%5], f)
		if e != 0 && r.Code != e {
			t.Errorf("%.60q: %v", f, r)
		}
		tally[e]++
	}
	if tally[api.ErrArg] < 300 || tally[api.ErrNoSys] < 300 {
		t.Errorf("the answers: %v", tally)
	}
	refused(t, h.frame(77, "abc"), api.ErrArg)
	refused(t, h.frame(0, numbered(26)), api.ErrNoSys)
	refused(t, h.frame(1, numbered(21)+numbered(0)+"x"), api.ErrArg)
	refused(t, h.frame(1, numbered(20)), api.ErrArg)
	for _, no := range []int64{101, 102, 103, 104, 105, 106, 107} { // those that only a kernel makes have no frames
		refused(t, h.frame(1, numbered(no)+numbered(2)), api.ErrNoSys)
	}
}

// P17.3: the longest frames of calls do what they say.
func TestLongestFrames(t *testing.T) {
	h := holdAll(t, capsWith(1, 10000))
	h.with(1, api.COpen, []string{"f"}, 7)
	data := strings.Repeat("0123456789", 900)
	want(t, h.with(1, api.CWrite, []string{data[:longest-20]}, 0), api.Reply{N: longest - 20})
	refused(t, h.with(1, api.CWrite, []string{data[:longest-19]}, 0), api.ErrArg)
	h.call(1, api.CSeek, 0, 0, 0)
	want(t, h.call(1, api.CRead, 0, 99999), api.Reply{N: longest - 20, S: data[:longest-20]})
	refused(t, h.with(1, api.CMkdir, []string{data[:longest-12]}), api.ErrNameLong)
}

// R4: a nil kernel and a nil service, and those that no call has returned, answer every call with ErrNil, or with nothing.
func TestNil(t *testing.T) {
	var none api.Reply
	none.Code = api.ErrNil
	for _, s := range []*kern.Service{nil, {}} {
		for _, no := range numbers() {
			for _, pid := range append([]int{1, 2}, strangePids...) {
				want(t, s.Do(pid, api.Call{No: no, N: [3]int64{7, 1, 1}, S: [2]string{"f", "g"}}), none)
			}
		}
		if s.State() != "" {
			t.Errorf("the state of none is %q", s.State())
		}
	}
	for _, k := range []*kern.Kernel{nil, {}} {
		for _, f := range append(frames(), numbered(20, 0), numbered(21, 0), numbered(25), frameOf(api.Call{No: 1, N: [3]int64{7}, S: [2]string{"f"}})) {
			for _, pid := range []int{1, 2, 0, -1} {
				want(t, replyOf(t, k.Call(pid, f)), none)
			}
		}
		for kind := -1; kind <= 5; kind++ {
			if s := k.Service(kind); s != nil {
				t.Errorf("Service(%d) of none is %v", kind, s)
			}
		}
	}
}

// CSpawn: each of its steps fails in turn, and what was done ahead of it is undone: the next one gets the same number.
func TestSpawnFails(t *testing.T) {
	begin := func(t *testing.T) *whole {
		h := holdAll(t, some)
		h.with(1, api.COpen, []string{"f"}, 7)
		h.call(1, api.CNext)
		return h
	}
	for _, c := range []struct {
		name   string
		before func(h *whole)
		pid    int
		nice   int64
		want   api.Errno
		after  func(h *whole)
	}{
		{"no such process", func(*whole) {}, 2, 0, api.ErrSrch, func(*whole) {}},
		{"process 0", func(*whole) {}, 0, 0, api.ErrSrch, func(*whole) {}},
		{"no nice value", func(*whole) {}, 1, 20, api.ErrArg, func(*whole) {}},
		{"no nice value, either", func(*whole) {}, 1, -21, api.ErrArg, func(*whole) {}},
		{"a nice value that only 32 bits would make one", func(*whole) {}, 1, 1 << 32, api.ErrArg, func(*whole) {}},
		{"the child has files", func(h *whole) { h.direct(1, api.KClone, 2) }, 1, 0, api.ErrExist, func(h *whole) { h.direct(2, api.KDropF) }},
		{"the parent has no files", func(h *whole) { h.direct(1, api.KDropF) }, 1, 0, api.ErrSrch, nil},
		{"the child has a space", func(h *whole) { h.direct(2, api.KSpace) }, 1, 0, api.ErrExist, func(h *whole) { h.direct(2, api.KDropM) }},
		{"no frame is left", func(h *whole) { h.call(1, api.CBrk, 36) }, 1, 0, api.ErrNoMem, func(h *whole) { h.call(1, api.CBrk, 35) }},
		{"files ahead of a space", func(h *whole) { h.direct(1, api.KClone, 2); h.call(1, api.CBrk, 36) }, 1, 0, api.ErrExist, func(h *whole) { h.direct(2, api.KDropF); h.call(1, api.CBrk, 35) }},
	} {
		t.Run(c.name, func(t *testing.T) {
			h := begin(t)
			c.before(h)
			refused(t, h.call(c.pid, api.CSpawn, c.nice), c.want)
			refused(t, h.call(c.pid, api.CSpawn, c.nice), c.want)
			if c.after != nil {
				c.after(h)
				want(t, h.call(1, api.CSpawn, 0), api.Reply{N: 2})
			}
		})
	}
}

// CSpawn: a process more than there may be; a child that has children; the lowest number that is free.
func TestSpawn(t *testing.T) {
	h := holdAll(t, some)
	h.with(1, api.COpen, []string{"f"}, 7)
	want(t, h.call(1, api.CSpawn, -20), api.Reply{N: 2})
	want(t, h.call(2, api.CSpawn, 19), api.Reply{N: 3})
	want(t, h.call(3, api.CSpawn, 0), api.Reply{N: 4})
	refused(t, h.call(1, api.CSpawn, 0), api.ErrAgain)
	refused(t, h.call(4, api.CSpawn, 0), api.ErrAgain)
	refused(t, h.call(4, api.CSpawn, 20), api.ErrArg)
	want(t, h.call(3, api.CExit, 5), api.Reply{})
	refused(t, h.call(1, api.CSpawn, 0), api.ErrAgain) // it has ended, but is there until it is told of
	refused(t, h.call(3, api.CSpawn, 0), api.ErrSrch)
	want(t, h.call(2, api.CWait, 0), api.Reply{N: 3, S: numbered(5)})
	want(t, h.call(4, api.CSpawn, 0), api.Reply{N: 3})
}

// CExit: process 1 may not, whatever else is wrong; nor one that isn't there, or has ended.
func TestExitRefused(t *testing.T) {
	h := holdAll(t, some)
	h.call(1, api.CSpawn, 0)
	for _, code := range []int64{0, 1, -1, least, greatest} {
		refused(t, h.call(1, api.CExit, code), api.ErrPerm)
		for _, pid := range append([]int{3, 4, 5}, strangePids...) {
			refused(t, h.call(pid, api.CExit, code), api.ErrSrch)
		}
	}
	want(t, h.call(2, api.CExit, 1), api.Reply{})
	refused(t, h.call(2, api.CExit, 2), api.ErrSrch)
	h.call(1, api.CWait, 0)
	refused(t, h.call(2, api.CExit, 2), api.ErrSrch)
	h.direct(1, api.KDropM)
	refused(t, h.call(1, api.CExit, 2), api.ErrPerm)
}

// CExit: the codes come back whole; children become those of process 1.
func TestExitCodes(t *testing.T) {
	h := holdAll(t, some)
	for _, code := range []int64{0, 1, -1, 255, 256, 1 << 31, -1 << 31, 1 << 32, least, greatest} {
		want(t, h.call(1, api.CSpawn, 0), api.Reply{N: 2})
		want(t, h.call(2, api.CSpawn, 0), api.Reply{N: 3})
		want(t, h.call(2, api.CExit, code), api.Reply{})
		want(t, h.call(1, api.CWait, 0), api.Reply{N: 2, S: numbered(code)})
		want(t, h.call(3, api.CExit, code), api.Reply{})
		want(t, h.call(1, api.CWait, 3), api.Reply{N: 3, S: numbered(code)})
	}
}

// P17.4: what ends leaves no descriptors, no regions and no frames, and what only it had open is gone.
func TestNothingRemains(t *testing.T) {
	h := holdAll(t, capsWith(6, 1100))
	h.with(1, api.COpen, []string{"f"}, 7)
	before := h.states()
	want(t, h.call(1, api.CSpawn, 0), api.Reply{N: 2})
	want(t, h.with(2, api.COpen, []string{"g"}, 7), api.Reply{N: 1})
	h.with(2, api.CWrite, []string{"bytes"}, 1)
	want(t, h.with(1, api.CUnlink, []string{"g"}), api.Reply{})
	h.call(2, api.CDup, 1)
	want(t, h.call(2, api.CMmap, 9000, 3, 0), api.Reply{N: 65536})
	want(t, h.call(2, api.CMmap, 1, 1, 1), api.Reply{N: 2097152})
	want(t, h.call(2, api.CBrk, 7), api.Reply{})
	if h.states() == before {
		t.Fatal("nothing has changed")
	}
	want(t, h.call(2, api.CExit, 3), api.Reply{})
	after := h.states()
	if after[0] != before[0] || after[1] != before[1] {
		t.Errorf("what remains: %s %s", differ(after[0], before[0]), differ(after[1], before[1]))
	}
	if after[2] != "q 1 0 1 0 0\nq 2 1 2 3 0\ny 1\no 1 0\n" {
		t.Errorf("the processes are %q", after[2])
	}
	h.call(1, api.CWait, 0)
	if h.states() != before {
		t.Errorf("what remains: %q", h.states())
	}
}

// CExit goes by its steps where the services don't agree on who is there: without a space it ends at once, without files it goes on.
func TestExitByItsSteps(t *testing.T) {
	h := holdAll(t, some)
	h.call(1, api.CSpawn, 0)
	h.direct(2, api.KDropM)
	refused(t, h.call(2, api.CExit, 1), api.ErrSrch)
	h.direct(2, api.KSpace)
	h.direct(2, api.KDropF)
	want(t, h.call(2, api.CExit, 1), api.Reply{})
	h.direct(3, api.KSpace)
	h.direct(1, api.KClone, 3)
	refused(t, h.loose(3, numbered(21, 7)), api.ErrSrch)
	refused(t, h.direct(3, api.CBrk, 1), api.ErrSrch) // its space is dropped all the same
	refused(t, h.direct(3, api.CClose, 0), api.ErrSrch)
}

// P17.3, P17.4: where the reply has more bytes than a frame of a reply, the call is answered all the same, and changes nothing.
func TestReplyThatNoFrameHas(t *testing.T) {
	c := some
	c.Links = 32768
	k, e := kern.New(c)
	if e != api.OK {
		t.Fatal(e)
	}
	s := k.Service(1)
	files := []string{"yyyy", "zzzz"}
	for fd, file := range files {
		want(t, s.Do(1, api.Call{No: api.COpen, N: [3]int64{7}, S: [2]string{file}}), api.Reply{N: int64(fd)})
	}
	room := full / (4 + 4 + 16) // names of four bytes
	for i := range room - 2 {
		want(t, s.Do(1, api.Call{No: api.CLink, S: [2]string{files[i%2], fmt.Sprintf("%04x", i)}}), api.Reply{})
	}
	list := api.Call{No: api.CList, S: [2]string{"/"}}
	r := replyOf(t, k.Call(1, frameOf(list)))
	if r != s.Do(1, list) || r.N != int64(room) || len(r.S) != room*24 {
		t.Fatalf("the list of %d names: %d, %d, %d bytes", room, r.Code, r.N, len(r.S))
	}
	want(t, s.Do(1, api.Call{No: api.CLink, S: [2]string{"yyyy", strings.Repeat("x", 32)}}), api.Reply{})
	before := s.State()
	if r := s.Do(1, list); r.N != int64(room+1) || len(r.S) != room*24+52 || r.Code != api.OK {
		t.Errorf("the list of %d names: %d, %d, %d bytes", room+1, r.Code, r.N, len(r.S))
	}
	refused(t, replyOf(t, k.Call(1, frameOf(list))), api.ErrArg)
	if s.State() != before {
		t.Error("the state has changed")
	}
}

// T3: broken frames are answered as the model answers them.
func TestBrokenFrames(t *testing.T) {
	r := rand.New(rand.NewSource(17))
	h := holdAll(t, some)
	tally := map[api.Errno]int{}
	for range 4000 {
		b := []byte(frameOf(kernelCall(r)))
		for range r.Intn(3) {
			switch at := r.Intn(len(b)); r.Intn(4) {
			case 0:
				b[at] ^= 1 << r.Intn(8)
			case 1:
				b = append(b, byte(r.Intn(3)))
			case 2:
				b = slices.Delete(b, at, at+1)
			case 3:
				b = slices.Insert(b, at, byte(r.Intn(4)))
			}
			if len(b) == 0 {
				b = []byte{0}
			}
		}
		tally[h.frame(1+r.Intn(4), string(b)).Code]++
	}
	for _, e := range []api.Errno{api.OK, api.ErrArg, api.ErrNoSys, api.ErrSrch} {
		if tally[e] < 50 {
			t.Errorf("answer %d came %d times: %v", e, tally[e], tally)
		}
	}
}
