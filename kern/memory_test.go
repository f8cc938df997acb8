package kern_test

import (
	"math/rand"
	"strings"
	"testing"

	"hayward/api"
)

// P17.1: N and S of the replies of SMem's calls.
func TestMemoryReplies(t *testing.T) {
	h := hold(t, 2, capsWith(6, 1100))
	want(t, h.call(1, api.CMmap, 5000, 3, 0), api.Reply{N: 65536})
	want(t, h.call(1, api.CMmap, 4096, 1, 0), api.Reply{N: 73728})
	want(t, h.call(1, api.CMmap, 1, 7, 1), api.Reply{N: 2097152})
	want(t, h.call(1, api.CWalk, 65536, 2), api.Reply{N: 1 * 4096})
	want(t, h.call(1, api.CWalk, 69632+4095, 0), api.Reply{N: 5*4096 + 4095})
	want(t, h.call(1, api.CWalk, 2097152+2097151, 5), api.Reply{N: 512*4096 + 2097151})
	want(t, h.call(1, api.CBrk, 2), api.Reply{})
	want(t, h.call(1, api.CBrk, 1), api.Reply{N: 2})
	want(t, h.call(1, api.CBrk, 1), api.Reply{N: 1})
	want(t, h.call(1, api.CMprotect, 65536, 8192, 1), api.Reply{})
	refused(t, h.call(1, api.CWalk, 65536, 2), api.ErrPerm)
	want(t, h.call(1, api.CMunmap, 65536, 1), api.Reply{})
	refused(t, h.call(1, api.CWalk, 65536, 0), api.ErrFault)
	want(t, h.call(7, api.KSpace), api.Reply{})
	want(t, h.call(7, api.CMmap, 1, 1, 0), api.Reply{N: 65536})
	want(t, h.call(7, api.KDropM), api.Reply{})
	refused(t, h.call(7, api.KDropM), api.ErrSrch)
}

// P17.1: errors of SMem's calls, and their order.
func TestMemoryErrors(t *testing.T) {
	h := lived(t, 2)
	for _, c := range []struct {
		no int
		n  [3]int64
		e  api.Errno
	}{
		{api.CMmap, [3]int64{0, 3, 0}, api.ErrArg},
		{api.CMmap, [3]int64{1, 2, 0}, api.ErrArg},
		{api.CMmap, [3]int64{1, 3 + 1<<32, 0}, api.ErrArg},
		{api.CMmap, [3]int64{1<<40 + 1, 3, 0}, api.ErrArg},
		{api.CMmap, [3]int64{1 << 39, 3, 0}, api.ErrNoMem},
		{api.CMmap, [3]int64{1 << 39, 3, 2}, api.ErrArg},
		{api.CMunmap, [3]int64{1, 4096}, api.ErrArg},
		{api.CMunmap, [3]int64{65536, 0}, api.ErrArg},
		{api.CMunmap, [3]int64{2097152, 4096}, api.ErrArg},
		{api.CMprotect, [3]int64{0, 4096, 1}, api.ErrUnmapped},
		{api.CMprotect, [3]int64{0, 4096, 2}, api.ErrArg},
		{api.CMprotect, [3]int64{65536, 4096, 1 << 32}, api.ErrArg},
		{api.CBrk, [3]int64{-1}, api.ErrArg},
		{api.CBrk, [3]int64{1025}, api.ErrArg},
		{api.CBrk, [3]int64{1 << 32}, api.ErrArg},
		{api.CBrk, [3]int64{1024}, api.ErrNoMem},
		{api.CWalk, [3]int64{65536, 8}, api.ErrArg},
		{api.CWalk, [3]int64{65536, 1 << 32}, api.ErrArg},
		{api.CWalk, [3]int64{65536, 4}, api.ErrPerm},
		{api.CWalk, [3]int64{0, 1}, api.ErrFault},
		{api.CWalk, [3]int64{1 << 47, 1}, api.ErrArg},
	} {
		refused(t, h.call(1, c.no, c.n[:]...), c.e)
		refused(t, h.call(3, c.no, c.n[:]...), api.ErrSrch)
	}
}

// P17.1: huge is 0 or 1 with all of its bits, whatever else is wrong.
func TestHuge(t *testing.T) {
	h := hold(t, 2, capsWith(6, 1600))
	want(t, h.call(1, api.CMmap, 1, 3, 0), api.Reply{N: 65536})
	want(t, h.call(1, api.CMmap, 1, 3, 1), api.Reply{N: 2097152})
	for _, huge := range []int64{2, 3, -1, -2, 256, 257, 1 << 32, 1<<32 + 1, 1<<63 - 1, least, least + 1} {
		for _, size := range []int64{1, 4096, 0, -1, 1 << 39, 1 << 41} {
			for _, perm := range []int64{3, 0} {
				refused(t, h.call(1, api.CMmap, size, perm, huge), api.ErrArg)
				refused(t, h.call(2, api.CMmap, size, perm, huge), api.ErrSrch)
			}
		}
	}
	want(t, h.call(1, api.CMmap, 1, 3, 1), api.Reply{N: 4194304})
	refused(t, h.call(1, api.CMmap, 1, 3, 1), api.ErrNoMem)
	want(t, h.call(1, api.CMmap, 1, 3, 0), api.Reply{N: 69632})
}

// P17.1: negative numbers are great addresses and sizes. Their sum with a small one may wrap round to what is mapped.
func TestNegativeAddresses(t *testing.T) {
	h := lived(t, 2)
	for _, n := range []int64{-1, -2, -4096, -8192, -65536, -2097152, least, least + 4096, -1 << 40, -1 << 47} {
		refused(t, h.call(1, api.CMmap, n, 3, 0), api.ErrArg)
		refused(t, h.call(1, api.CMmap, n, 3, 1), api.ErrArg)
		for _, m := range []int64{n, 1, 4096, 65536, 73728, 131072, -n, -n + 65536, greatest} {
			refused(t, h.call(1, api.CMunmap, n, m), api.ErrArg)
			refused(t, h.call(1, api.CMprotect, n, m, 1), api.ErrArg)
			refused(t, h.call(1, api.CMunmap, 65536, n), api.ErrArg)
			refused(t, h.call(1, api.CMprotect, 65536, n, 1), api.ErrArg)
		}
		refused(t, h.call(1, api.CWalk, n, 1), api.ErrArg)
		refused(t, h.call(1, api.CWalk, n, 0), api.ErrArg)
		refused(t, h.call(1, api.CWalk, 65536, n), api.ErrArg)
		refused(t, h.call(1, api.CBrk, n), api.ErrArg)
	}
	want(t, h.call(1, api.CWalk, 65536, 1), api.Reply{N: 4096})
}

// P17.1: KSpace for whom it is, ahead of what is left: one that has a space, one that has none, no numbers of processes, and where no frame is left.
func TestKSpace(t *testing.T) {
	h := hold(t, 2, capsWith(6, 4))
	refused(t, h.call(1, api.KSpace), api.ErrExist)
	want(t, h.call(2, api.KSpace), api.Reply{})
	refused(t, h.call(2, api.KSpace), api.ErrExist)
	for _, pid := range []int{0, -1, -2, least, least + 1, -1 << 32} {
		refused(t, h.call(pid, api.KSpace), api.ErrArg)
	}
	want(t, h.call(greatest, api.KSpace), api.Reply{})
	want(t, h.call(1<<32+1, api.KSpace), api.Reply{})
	refused(t, h.call(3, api.KSpace), api.ErrNoMem)
	refused(t, h.call(1, api.KSpace), api.ErrExist)
	refused(t, h.call(0, api.KSpace), api.ErrArg)
	refused(t, h.call(3, api.CBrk, 0), api.ErrSrch)
	want(t, h.call(1, api.KDropM), api.Reply{})
	want(t, h.call(3, api.KSpace), api.Reply{})
	refused(t, h.call(1, api.KSpace), api.ErrNoMem)
}

// P17.1: after KDropM a process is none of the service, all its frames are free, and others keep theirs; it may get a space again.
func TestKDropM(t *testing.T) {
	h := lived(t, 2)
	want(t, h.call(1, api.KDropM), api.Reply{})
	for _, no := range numbersOf[2] {
		if no != api.KSpace {
			refused(t, h.call(1, no, 65536, 1, 0), api.ErrSrch)
		}
	}
	want(t, h.call(2, api.CWalk, 65536, 4), api.Reply{N: 13 * 4096})
	if s := h.s.State(); s != "l 1095\nm 2\nr 65536 69632 5 0\ng 65536 13\n" {
		t.Errorf("the state is %q", s)
	}
	want(t, h.call(1, api.KSpace), api.Reply{})
	want(t, h.call(1, api.CMmap, 1, 1, 0), api.Reply{N: 65536})
	want(t, h.call(1, api.KDropM), api.Reply{})
	want(t, h.call(2, api.KDropM), api.Reply{})
	if s := h.s.State(); s != "l 1100\n" {
		t.Errorf("the state is %q", s)
	}
	want(t, h.call(2, api.KSpace), api.Reply{})
}

// P17.1: the spaces of many processes share the frames, and the state has them in order.
func TestManySpaces(t *testing.T) {
	h := hold(t, 2, capsWith(6, 200))
	for _, pid := range []int{10, 9, 100, 2, 1024} {
		want(t, h.call(pid, api.KSpace), api.Reply{})
		want(t, h.call(pid, api.CMmap, int64(pid), 3, 0), api.Reply{N: 65536})
		want(t, h.call(pid, api.CBrk, 5), api.Reply{})
	}
	last := -1
	for _, m := range []string{"\nm 1\n", "\nm 2\n", "\nm 9\n", "\nm 10\n", "\nm 100\n", "\nm 1024\n"} {
		at := strings.Index(h.s.State(), m)
		if at <= last {
			t.Errorf("%q stands at %d, behind %d", m, at, last)
		}
		last = at
	}
}

// memCall is a call of SMem.
func memCall(r *rand.Rand) api.Call {
	c := api.Call{No: 15 + r.Intn(5)}
	va := func() int64 {
		return []int64{65536 + 4096*int64(r.Intn(12)), 2097152 * int64(r.Intn(4)), 1<<41 + 4096*int64(r.Intn(8)), 4096 * int64(r.Intn(700))}[r.Intn(4)]
	}
	size := func() int64 {
		return []int64{4096 * int64(1+r.Intn(6)), 2097152 * int64(1+r.Intn(2)), int64(r.Intn(30000))}[r.Intn(3)]
	}
	perm := func() int64 { return []int64{1, 3, 5, 7, int64(r.Intn(9))}[r.Intn(5)] }
	switch c.No {
	case api.CMmap:
		c.N = [3]int64{[]int64{int64(r.Intn(30000)), 1, size()}[r.Intn(3)], perm(), int64(r.Intn(8) / 7)}
	case api.CMunmap:
		c.N = [3]int64{va(), size(), 0}
	case api.CMprotect:
		c.N = [3]int64{va(), size(), perm()}
	case api.CBrk:
		c.N[0] = int64(r.Intn(9))
	case api.CWalk:
		c.N = [3]int64{va() + int64(r.Intn(2)*r.Intn(4096)), int64(r.Intn(8)), 0}
	}
	if r.Intn(20) == 0 {
		c.N[r.Intn(3)] = odd(r)
	}
	return c
}
