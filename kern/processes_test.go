package kern_test

import (
	"math/rand"
	"testing"

	"hayward/api"
)

// The bits of 0.5 and of 0.25.
const (
	half    = 0x3FE0000000000000
	quarter = 0x3FD0000000000000
)

// P17.1: N and S of the replies of SProc's calls, byte by byte.
func TestProcessReplies(t *testing.T) {
	h := hold(t, 3, some)
	want(t, h.call(1, api.KSpawn, 0), api.Reply{N: 2})
	want(t, h.call(2, api.KSpawn, -1), api.Reply{N: 3})
	want(t, h.call(1, api.CLoad, 1), api.Reply{})
	want(t, h.call(3, api.CNext), api.Reply{N: 1})
	want(t, h.call(3, api.CNext), api.Reply{N: 2})
	want(t, h.call(1, api.CLoad, 2), api.Reply{N: half})
	want(t, h.call(2, api.CLoad, 1), api.Reply{N: quarter})
	want(t, h.call(1, api.CNice, 3, 19), api.Reply{})
	want(t, h.call(3, api.KExit, -2), api.Reply{})
	want(t, h.call(2, api.CWait, 0), api.Reply{N: 3, S: "\xfe\xff\xff\xff\xff\xff\xff\xff"})
	want(t, h.call(1, api.KUndo, 2), api.Reply{})
	want(t, h.call(1, api.KSpawn, 19), api.Reply{N: 2})
	want(t, h.call(2, api.KExit, 258), api.Reply{})
	want(t, h.call(1, api.CWait, 2), api.Reply{N: 2, S: "\x02\x01" + zeros(6)})
}

// P17.1: errors of SProc's calls, and their order.
func TestProcessErrors(t *testing.T) {
	h := lived(t, 3)
	for _, c := range []struct {
		pid, no int
		n       [3]int64
		e       api.Errno
	}{
		{1, api.CWait, [3]int64{0}, api.OK},
		{1, api.CWait, [3]int64{0}, api.ErrAgain},
		{1, api.CWait, [3]int64{2}, api.ErrAgain},
		{1, api.CWait, [3]int64{4}, api.ErrChild},
		{1, api.CWait, [3]int64{-1}, api.ErrArg},
		{1, api.CWait, [3]int64{2 + 1<<32}, api.ErrChild},
		{4, api.CWait, [3]int64{0}, api.ErrChild},
		{1, api.CNice, [3]int64{1, 20}, api.ErrArg},
		{1, api.CNice, [3]int64{1, -21}, api.ErrArg},
		{1, api.CNice, [3]int64{1, 1 << 32}, api.ErrArg},
		{1, api.CNice, [3]int64{3, 20}, api.ErrSrch},
		{1, api.CNice, [3]int64{0, 0}, api.ErrSrch},
		{1, api.CNice, [3]int64{1 + 1<<32, 0}, api.ErrSrch},
		{1, api.CLoad, [3]int64{3}, api.ErrSrch},
		{1, api.CLoad, [3]int64{0}, api.ErrSrch},
		{1, api.CLoad, [3]int64{-1}, api.ErrSrch},
		{1, api.CLoad, [3]int64{1 + 1<<32}, api.ErrSrch},
		{1, api.KSpawn, [3]int64{20}, api.ErrArg},
		{1, api.KSpawn, [3]int64{-21}, api.ErrArg},
		{1, api.KSpawn, [3]int64{1 << 32}, api.ErrArg},
		{1, api.KUndo, [3]int64{1}, api.ErrPerm},
		{1, api.KUndo, [3]int64{2}, api.ErrPerm},
		{1, api.KUndo, [3]int64{3}, api.ErrSrch},
		{1, api.KUndo, [3]int64{0}, api.ErrSrch},
		{1, api.KUndo, [3]int64{4 + 1<<32}, api.ErrSrch},
		{1, api.KExit, [3]int64{0}, api.ErrPerm},
		{3, api.CNext, [3]int64{}, api.ErrSrch},
	} {
		if r := h.call(c.pid, c.no, c.n[:]...); r.Code != c.e {
			t.Errorf("Do(%d, %d %v) = %v; want %d", c.pid, c.no, c.n, r, c.e)
		}
	}
}

// P17.1: one that has ended is no process that calls, though it is there till its parent is told.
func TestEndedProcess(t *testing.T) {
	h := lived(t, 3)
	for _, no := range numbersOf[3] {
		refused(t, h.call(3, no, 0, 0), api.ErrSrch)
	}
	refused(t, h.call(1, api.CNice, 3, 0), api.ErrSrch)
	refused(t, h.call(1, api.KUndo, 3), api.ErrSrch)
	want(t, h.call(1, api.CWait, 3), api.Reply{N: 3, S: numbered(9)})
	for _, no := range numbersOf[3] {
		refused(t, h.call(3, no, 0, 0), api.ErrSrch)
	}
}

// next demands who is next.
func (h *held) next(pids ...int64) {
	h.t.Helper()
	for _, pid := range pids {
		want(h.t, h.call(1, api.CNext), api.Reply{N: pid})
	}
}

// P17.1: KSpawn, CNice, KUndo and KExit change both the table and the queue.
func TestTableAndQueue(t *testing.T) {
	h := hold(t, 3, some)
	want(t, h.call(1, api.KSpawn, 4), api.Reply{N: 2})
	want(t, h.call(1, api.KSpawn, -5), api.Reply{N: 3})
	wantState(t, h, "q 1 0 1 0 0\nq 2 1 1 0 4\nq 3 1 1 0 -5\ny 3\ny 1\ny 2\no 1 0\no 2 0\no 3 0\n")
	h.next(3, 3)
	want(t, h.call(2, api.CNice, 3, 4), api.Reply{}) // of any process, by any process
	wantState(t, h, "q 1 0 1 0 0\nq 2 1 1 0 4\nq 3 1 1 0 4\ny 1\ny 2\ny 3\no 1 0\no 2 0\no 3 4604930618986332160\n")
	want(t, h.call(2, api.CNice, 2, 11), api.Reply{}) // of the same level: its place stays
	h.next(1, 1)
	want(t, h.call(1, api.CNice, 1, 12), api.Reply{})
	h.next(2, 3, 2, 3)
	want(t, h.call(1, api.KUndo, 2), api.Reply{})
	h.next(3, 3)
	refused(t, h.call(1, api.CLoad, 2), api.ErrSrch)
	want(t, h.call(3, api.KExit, 6), api.Reply{})
	h.next(1, 1)
	want(t, h.call(1, api.KSpawn, 12), api.Reply{N: 2}) // 3 has ended, but is there
	want(t, h.call(1, api.CLoad, 2), api.Reply{})
	h.next(1, 2, 1)
	want(t, h.call(1, api.KSpawn, -20), api.Reply{N: 4})
	refused(t, h.call(1, api.KSpawn, 0), api.ErrAgain)
	want(t, h.call(1, api.CWait, 0), api.Reply{N: 3, S: numbered(6)})
	want(t, h.call(4, api.KSpawn, 0), api.Reply{N: 3})
	h.next(4, 4)
	want(t, h.call(2, api.KUndo, 3), api.Reply{}) // of another one's child
	want(t, h.call(4, api.KExit, 0), api.Reply{})
	h.next(2, 1)
}

// State: many processes, of all nice values, in the order of their numbers, and in the queue's.
func TestManyProcesses(t *testing.T) {
	h := hold(t, 3, capsWith(5, 60))
	for i := range int64(50) {
		want(t, h.call(1+int(i)/2, api.KSpawn, i%40-20), api.Reply{N: i + 2})
	}
	for i := range 60 {
		h.call(1+i%50, api.CNext)
		h.call(1, api.CLoad, int64(i))
	}
	for i := 2; i < 50; i += 3 {
		want(t, h.call(i, api.KExit, int64(-i)), api.Reply{})
		h.call(1, api.CNice, int64(i+1), int64(i%40-20))
	}
	for range 30 {
		h.call(1, api.CNext)
		h.call(1, api.CWait, 0)
	}
}

// procCall is a call of SProc, for some of so many processes.
func procCall(r *rand.Rand, procs int) api.Call {
	c := api.Call{No: 22 + r.Intn(4)}
	pid := func() int64 { return int64(r.Intn(procs + 2)) }
	switch c.No {
	case api.CWait:
		c.N[0] = pid() * int64(r.Intn(2))
	case api.CNice:
		c.N = [3]int64{pid(), int64(r.Intn(42) - 21), 0}
	case api.CLoad:
		c.N[0] = pid()
	}
	if r.Intn(25) == 0 {
		c.N[r.Intn(2)] = odd(r)
	}
	return c
}
