package proc_test

import (
	"math/rand"
	"slices"
	"testing"

	"hayward/api"
	"hayward/proc"
)

// The signatures are part of the chapter.
var (
	_ func(procs int) (*proc.Table, api.Errno)                     = proc.New
	_ func(t *proc.Table, parent, nice int) (int, api.Errno)       = (*proc.Table).Spawn
	_ func(t *proc.Table, pid, code int) api.Errno                 = (*proc.Table).Exit
	_ func(t *proc.Table, parent, child int) (api.Proc, api.Errno) = (*proc.Table).Wait
	_ func(t *proc.Table, pid int) api.Errno                       = (*proc.Table).Undo
	_ func(t *proc.Table, pid, nice int) api.Errno                 = (*proc.Table).Nice
	_ func(t *proc.Table, pid int) (api.Proc, bool)                = (*proc.Table).Get
	_ func(t *proc.Table) []api.Proc                               = (*proc.Table).All
)

var (
	// great are numbers that no process has, be they cut off to fewer bits or not.
	great = []int{least, least + 1, least + 2, -1 << 32, 1 - 1<<32, 2 - 1<<32, -1 << 16, 2 - 1<<16, -1025, -1024, -3, -2, -1, 0, 1025, 1026, 1<<16 + 1, 1<<16 + 2, 1 << 32, 1<<32 + 1, 1<<32 + 2, 1<<62 + 2, greatest - 1, greatest}
	// nices are nice values, niceless numbers that are none.
	nices    = []int{-20, -19, -8, -1, 0, 1, 5, 11, 12, 18, 19}
	niceless = []int{least, least + 1, -1 << 32, 5 - 1<<32, -1 << 16, -257, -256, -255, -128, -127, -22, -21, 20, 21, 127, 128, 236, 255, 256, 261, 1 << 16, 1<<16 + 5, 1 << 32, 1<<32 + 5, greatest - 1, greatest}
	// codes are all alike: every number is one.
	codes = []int{least, least + 1, -1 << 32, -256, -1, 0, 1, 2, 7, 255, 256, 1 << 16, 1 << 32, 1<<32 + 7, greatest - 1, greatest}
)

// runner and ended are processes as they must be, field by field.
func runner(pid, parent, nice int) api.Proc {
	return api.Proc{Pid: pid, Parent: parent, State: 1, Code: 0, Nice: nice}
}

func ended(pid, parent, code, nice int) api.Proc {
	return api.Proc{Pid: pid, Parent: parent, State: 2, Code: code, Nice: nice}
}

// spawned makes a process that must get the number pid.
func (h *held) spawned(parent, nice, pid int) {
	h.t.Helper()
	if got, e := h.spawn(parent, nice); got != pid || e != api.OK {
		h.t.Fatalf("Spawn(%d, %d) = %d, %d; want %d", parent, nice, got, e, pid)
	}
}

// refused demands that no process is made, and that nothing has changed then.
func (h *held) refused(parent, nice int, want api.Errno) {
	h.t.Helper()
	before := h.x.All()
	if pid, e := h.spawn(parent, nice); pid != 0 || e != want {
		h.t.Fatalf("Spawn(%d, %d) = %d, %d; want error %d", parent, nice, pid, e, want)
	}
	h.all(before...)
}

// exited ends a process that must run.
func (h *held) exited(pid, code int) {
	h.t.Helper()
	if e := h.exit(pid, code); e != api.OK {
		h.t.Fatalf("Exit(%d, %d) = %d", pid, code, e)
	}
}

// told demands of which child a parent is told.
func (h *held) told(parent, child int, want api.Proc) {
	h.t.Helper()
	if got, e := h.wait(parent, child); got != want || e != api.OK {
		h.t.Fatalf("Wait(%d, %d) = %+v, %d; want %+v", parent, child, got, e, want)
	}
}

// untold demands that a parent is told of no child, and that nothing has changed then.
func (h *held) untold(parent, child int, want api.Errno) {
	h.t.Helper()
	before := h.x.All()
	if got, e := h.wait(parent, child); got != (api.Proc{}) || e != want {
		h.t.Fatalf("Wait(%d, %d) = %+v, %d; want error %d", parent, child, got, e, want)
	}
	h.all(before...)
}

// kept makes a call that must be refused, and demands that nothing has changed then.
func (h *held) kept(want api.Errno, call func() api.Errno) {
	h.t.Helper()
	before := h.x.All()
	h.must(call(), want)
	h.all(before...)
}

// is demands a process, by numbers of the test itself.
func (h *held) is(want api.Proc) {
	h.t.Helper()
	if got, ok := h.x.Get(want.Pid); got != want || !ok {
		h.t.Fatalf("Get(%d) = %+v, %t; want %+v", want.Pid, got, ok, want)
	}
}

// gone demands that there is no process with that number.
func (h *held) gone(pid int) {
	h.t.Helper()
	if got, ok := h.x.Get(pid); got != (api.Proc{}) || ok {
		h.t.Fatalf("Get(%d) = %+v, %t; want none", pid, got, ok)
	}
}

// all demands all processes, by numbers of the test itself.
func (h *held) all(want ...api.Proc) {
	h.t.Helper()
	if got := h.x.All(); !slices.Equal(got, want) {
		h.t.Fatalf("All() = %+v; want %+v", got, want)
	}
}

// town is a table in which there is something of every sort, with two numbers that are not in use, 7 and 12.
func town(t *testing.T) *held {
	t.Helper()
	h := hold(t, 12)
	h.spawned(1, 0, 2)
	h.spawned(2, -20, 3)
	h.spawned(2, 19, 4)
	h.spawned(3, 7, 5)
	h.spawned(1, 1, 6)
	h.spawned(1, 2, 7)
	h.spawned(5, 3, 8)
	h.spawned(1, 4, 9)
	h.spawned(9, 5, 10)
	h.spawned(2, 6, 11)
	h.exited(4, 44)
	h.exited(6, -6)
	h.exited(8, 0)
	h.exited(9, 99)
	h.exited(11, greatest)
	h.must(h.undo(7), api.OK)
	h.all(townsfolk()...)
	return h
}

// townsfolk are the town's processes.
func townsfolk() []api.Proc {
	return []api.Proc{
		runner(1, 0, 0),     // with children of both sorts
		runner(2, 1, 0),     // with children of both sorts
		runner(3, 2, -20),   // with a child that runs
		ended(4, 2, 44, 19), // one of its parent's two that have ended
		runner(5, 3, 7),     // with a child that has ended
		ended(6, 1, -6, 1),  // one of its parent's two that have ended
		ended(8, 5, 0, 3),   // the only child
		ended(9, 1, 99, 4),  // whose child is 1's now
		runner(10, 1, 5),    // without children
		ended(11, 2, greatest, 6),
	}
}

// TestExamples are the chapter's, one row after the other.
func TestExamples(t *testing.T) {
	h := hold(t, 3)
	h.spawned(1, 0, 2)
	h.spawned(2, 5, 3)
	h.refused(1, 0, api.ErrAgain)
	h.untold(1, 0, api.ErrAgain)
	h.exited(2, 7)
	h.all(runner(1, 0, 0), ended(2, 1, 7, 0), runner(3, 1, 5))
	h.untold(1, 3, api.ErrAgain)
	h.told(1, 0, ended(2, 1, 7, 0))
	h.is(runner(3, 1, 5))
	h.kept(api.ErrPerm, func() api.Errno { return h.exit(1, 0) })
	h.kept(api.ErrSrch, func() api.Errno { return h.exit(2, 0) })
	h.untold(3, 0, api.ErrChild)
	h.refused(1, 20, api.ErrArg)
	h.check()
	h.whole()
}

// TestNew holds P14.1 at the bounds, and that a table holds so many processes and no more.
func TestNew(t *testing.T) {
	for _, procs := range append([]int{2048, 1 << 20}, great...) {
		if x, e := proc.New(procs); x != nil || e != api.ErrArg {
			t.Errorf("New(%d) = %v, %d; want error %d", procs, x, e, api.ErrArg)
		}
	}
	for procs := 1; procs <= 1024; procs++ {
		if procs > 40 && procs < 1020 && procs%50 > 0 {
			continue
		}
		h := hold(t, procs)
		h.all(runner(1, 0, 0))
		h.check()
		h.untold(1, 0, api.ErrChild)
		for pid := 2; pid <= procs; pid++ {
			h.spawned(pid/2, pid%40-20, pid)
		}
		h.refused(1, 0, api.ErrAgain)
		h.refused(procs, 0, api.ErrAgain)
		h.check()
		h.whole()
	}
}

// TestSpawn holds P14.2 for each nice value, and for each sort of parent.
func TestSpawn(t *testing.T) {
	for nice := -20; nice <= 19; nice++ {
		h := town(t)
		h.spawned(5, nice, 7)
		h.is(runner(7, 5, nice))
		h.spawned(7, nice, 12)
		h.is(runner(12, 7, nice))
		h.check()
		h.whole()
	}
	h := town(t)
	for _, nice := range niceless {
		h.refused(1, nice, api.ErrArg)
		h.refused(10, nice, api.ErrArg)
		h.refused(6, nice, api.ErrSrch)
	}
	for _, parent := range append([]int{4, 6, 7, 8, 9, 11, 12, 13}, great...) {
		h.refused(parent, 0, api.ErrSrch)
		h.refused(parent, 20, api.ErrSrch)
	}
	h.spawned(1, 0, 7)
	h.spawned(1, 0, 12)
	for _, parent := range []int{1, 2, 3, 5, 7, 10, 12} {
		h.refused(parent, 0, api.ErrAgain)
		h.refused(parent, -21, api.ErrArg)
	}
	h.refused(6, 0, api.ErrSrch)
	h.refused(13, 0, api.ErrSrch)
	h.refused(13, 20, api.ErrSrch)
	h.check()
	h.whole()
}

// TestLowest holds which number a process gets, after others were reaped or undone in whichever order, and that ended ones keep theirs.
func TestLowest(t *testing.T) {
	h := hold(t, 8)
	for pid := 2; pid <= 8; pid++ {
		h.spawned(1, 0, pid)
	}
	for _, pid := range []int{7, 3, 5} {
		h.exited(pid, pid)
		h.refused(1, 0, api.ErrAgain)
	}
	h.told(1, 5, ended(5, 1, 5, 0))
	h.spawned(2, 3, 5)
	h.is(runner(5, 2, 3))
	h.refused(1, 0, api.ErrAgain)
	h.told(1, 7, ended(7, 1, 7, 0))
	h.told(1, 0, ended(3, 1, 3, 0))
	h.must(h.undo(8), api.OK)
	h.spawned(1, 0, 3)
	h.must(h.undo(2), api.ErrPerm)
	h.must(h.undo(5), api.OK)
	h.must(h.undo(2), api.OK)
	for _, pid := range []int{2, 5, 7, 8} {
		h.spawned(6, -1, pid)
		h.is(runner(pid, 6, -1))
	}
	h.refused(1, 0, api.ErrAgain)
	h.check()
	h.whole()
}

// TestLowestOfAny frees every set of numbers of a full table, one half by each way, and makes as many processes anew.
func TestLowestOfAny(t *testing.T) {
	for set := range 1 << 7 {
		h := hold(t, 8)
		for pid := 2; pid <= 8; pid++ {
			h.spawned(1, pid, pid)
		}
		var free []int
		for pid := 8; pid >= 2; pid-- {
			switch {
			case set>>(pid-2)%2 == 0:
				continue
			case pid%2 == 0:
				h.must(h.undo(pid), api.OK)
			default:
				h.exited(pid, pid)
				h.told(1, pid, ended(pid, 1, pid, pid))
			}
			free = append([]int{pid}, free...)
		}
		for _, pid := range free {
			h.spawned(1, -1, pid)
		}
		h.refused(1, 0, api.ErrAgain)
		h.check()
	}
}

// TestExit holds P14.3 for each sort of process, and for all codes.
func TestExit(t *testing.T) {
	for _, code := range codes {
		h := town(t)
		h.kept(api.ErrPerm, func() api.Errno { return h.exit(1, code) })
		for _, pid := range append([]int{4, 6, 7, 8, 9, 11, 12, 13}, great...) {
			h.kept(api.ErrSrch, func() api.Errno { return h.exit(pid, code) })
		}
		for _, pid := range []int{2, 3, 5, 10} { // those that run, of which each is 1's by then
			before := h.x.All()
			h.exited(pid, code)
			for i, p := range before {
				switch {
				case p.Pid == pid:
					before[i].State, before[i].Code = 2, code
				case p.Parent == pid:
					before[i].Parent = 1
				}
			}
			h.all(before...)
			h.check()
			h.whole()
			h.kept(api.ErrSrch, func() api.Errno { return h.exit(pid, 1) })
		}
	}
}

// TestOrphans holds whose the children are that have lost their parent, and the children's children.
func TestOrphans(t *testing.T) {
	h := town(t)
	h.exited(2, 22)
	h.all(runner(1, 0, 0), ended(2, 1, 22, 0), runner(3, 1, -20), ended(4, 1, 44, 19), runner(5, 3, 7), ended(6, 1, -6, 1), ended(8, 5, 0, 3), ended(9, 1, 99, 4), runner(10, 1, 5), ended(11, 1, greatest, 6))
	h.exited(5, 55)
	h.is(ended(5, 3, 55, 7))
	h.is(ended(8, 1, 0, 3))
	h.exited(3, 33)
	h.is(ended(5, 1, 55, 7))
	h.is(ended(3, 1, 33, -20))
	for _, p := range []api.Proc{ended(2, 1, 22, 0), ended(3, 1, 33, -20), ended(4, 1, 44, 19), ended(5, 1, 55, 7), ended(6, 1, -6, 1), ended(8, 1, 0, 3), ended(9, 1, 99, 4), ended(11, 1, greatest, 6)} {
		h.told(1, 0, p)
		h.gone(p.Pid)
	}
	h.untold(1, 0, api.ErrAgain)
	h.all(runner(1, 0, 0), runner(10, 1, 5))
	h.exited(10, 0)
	h.told(1, 10, ended(10, 1, 0, 5))
	h.untold(1, 0, api.ErrChild)
	h.untold(1, 10, api.ErrChild)
	h.all(runner(1, 0, 0))
}

// TestChain ends a long chain of processes, each the one before's child, from either end and from its middle.
func TestChain(t *testing.T) {
	const n = 60
	for _, by := range []int{1, n - 2, 7, 22} {
		h := hold(t, n)
		for pid := 2; pid <= n; pid++ {
			h.spawned(pid-1, 0, pid)
		}
		for i := range n - 1 {
			pid := 2 + i*by%(n-1)
			p, _ := h.m.get(pid)
			h.exited(pid, i)
			h.is(ended(pid, p.Parent, i, 0))
			h.check()
			h.whole()
		}
		for pid := 2; pid <= n; pid++ {
			if p, e := h.wait(1, 0); p.Pid != pid || p.Parent != 1 || e != api.OK {
				t.Fatalf("Wait(1, 0) = %+v, %d; want process %d", p, e, pid)
			}
		}
		h.all(runner(1, 0, 0))
	}
}

// TestWait holds P14.4 for each sort of parent and of child.
func TestWait(t *testing.T) {
	h := town(t)
	for _, child := range append([]int{1, 2, 3, 4, 5, 6, 7, 8, 9, 10, 11, 12, 13}, great...) {
		for _, parent := range append([]int{4, 6, 7, 8, 9, 11, 12, 13}, great...) { // that have ended, or are not there
			h.untold(parent, child, api.ErrSrch)
		}
		if child >= 0 {
			h.untold(10, child, api.ErrChild) // it has no children
			continue
		}
		for _, parent := range []int{1, 2, 3, 5, 10} {
			h.untold(parent, child, api.ErrArg)
		}
	}
	others := map[int][]int{
		1: {1, 3, 4, 5, 7, 8, 11, 12, 13, greatest},
		2: {1, 2, 5, 6, 7, 8, 9, 10, 12, 13, greatest},
		3: {1, 2, 3, 4, 6, 8, 9, 10, 11},
		5: {1, 2, 3, 4, 5, 6, 9, 10, 11},
	}
	for parent, l := range others {
		for _, child := range l {
			h.untold(parent, child, api.ErrChild)
		}
	}
	h.untold(1, 2, api.ErrAgain)
	h.untold(1, 10, api.ErrAgain)
	h.untold(2, 3, api.ErrAgain)
	h.untold(3, 5, api.ErrAgain)
	h.untold(3, 0, api.ErrAgain)
	h.told(2, 11, ended(11, 2, greatest, 6))
	h.untold(2, 11, api.ErrChild)
	h.told(2, 0, ended(4, 2, 44, 19))
	h.untold(2, 0, api.ErrAgain)
	h.untold(2, 4, api.ErrChild)
	h.told(5, 0, ended(8, 5, 0, 3))
	h.untold(5, 0, api.ErrChild)
	h.told(1, 0, ended(6, 1, -6, 1))
	h.told(1, 9, ended(9, 1, 99, 4))
	h.untold(1, 0, api.ErrAgain)
	h.untold(1, 9, api.ErrChild)
	h.all(runner(1, 0, 0), runner(2, 1, 0), runner(3, 2, -20), runner(5, 3, 7), runner(10, 1, 5))
	h.check()
	h.whole()
}

// TestWaitLowest ends many in whichever order: they are told of from the lowest up, and of no other parent's.
func TestWaitLowest(t *testing.T) {
	for seed := range 12 {
		r := rand.New(rand.NewSource(int64(seed)))
		n := []int{9, 60, 1024}[seed%3]
		h := hold(t, n)
		h.spawned(1, 0, 2)
		for pid := 3; pid <= n; pid++ {
			h.spawned(1+pid%2, pid%20, pid)
		}
		for _, i := range r.Perm(n - 2) {
			h.exited(3+i, 3+i)
		}
		for pid := 4; pid <= n; pid += 2 {
			h.told(1, 0, ended(pid, 1, pid, pid%20))
		}
		h.untold(1, 0, api.ErrAgain)
		h.exited(2, -2)
		h.told(1, 0, ended(2, 1, -2, 0))
		for pid := 3; pid <= n; pid += 2 {
			h.told(1, 0, ended(pid, 1, pid, pid%20))
		}
		h.untold(1, 0, api.ErrChild)
		h.check()
	}
}

// TestWaitAsItWas holds that the process that is returned is the one that Get has returned, with the nice value that it had last.
func TestWaitAsItWas(t *testing.T) {
	for _, code := range codes {
		for _, nice := range nices {
			h := hold(t, 4)
			h.spawned(1, 3, 2)
			h.spawned(2, 4, 3)
			h.must(h.nice(3, nice), api.OK)
			h.exited(3, code)
			h.is(ended(3, 2, code, nice))
			h.told(2, 3, ended(3, 2, code, nice))
			h.gone(3)
			h.spawned(1, 1, 3) // nothing of the one before is left
			h.is(runner(3, 1, 1))
			h.untold(2, 3, api.ErrChild)
			h.untold(1, 3, api.ErrAgain)
		}
	}
}

// TestUndo holds P14.5 for each sort of process.
func TestUndo(t *testing.T) {
	h := town(t)
	for _, pid := range []int{1, 2, 3, 5} { // 3's child runs, 5's has ended
		h.kept(api.ErrPerm, func() api.Errno { return h.undo(pid) })
	}
	for _, pid := range append([]int{4, 6, 7, 8, 9, 11, 12, 13}, great...) {
		h.kept(api.ErrSrch, func() api.Errno { return h.undo(pid) })
	}
	h.must(h.undo(10), api.OK)
	h.all(slices.DeleteFunc(townsfolk(), func(p api.Proc) bool { return p.Pid == 10 })...)
	h.gone(10)
	h.kept(api.ErrSrch, func() api.Errno { return h.undo(10) })
	h.untold(1, 10, api.ErrChild)
	h.told(5, 0, ended(8, 5, 0, 3))
	h.must(h.undo(5), api.OK)
	h.untold(3, 0, api.ErrChild)
	h.must(h.undo(3), api.OK)
	h.kept(api.ErrPerm, func() api.Errno { return h.undo(2) })
	h.told(2, 4, ended(4, 2, 44, 19))
	h.kept(api.ErrPerm, func() api.Errno { return h.undo(2) })
	h.told(2, 11, ended(11, 2, greatest, 6))
	h.must(h.undo(2), api.OK)
	h.check()
	h.whole()
	alone := hold(t, 1)
	alone.kept(api.ErrPerm, func() api.Errno { return alone.undo(1) })
}

// TestNice holds P14.5 for each nice value, and for each sort of process.
func TestNice(t *testing.T) {
	for nice := -20; nice <= 19; nice++ {
		h := town(t)
		want := townsfolk()
		for i, p := range want {
			if p.State == api.PRun {
				h.must(h.nice(p.Pid, nice), api.OK)
				want[i].Nice = nice
			} else {
				h.kept(api.ErrSrch, func() api.Errno { return h.nice(p.Pid, nice) })
			}
			h.all(want...)
		}
		h.check()
		h.whole()
	}
	h := town(t)
	for _, pid := range append([]int{4, 6, 7, 8, 9, 11, 12, 13}, great...) {
		for _, nice := range slices.Concat(nices, niceless) {
			h.kept(api.ErrSrch, func() api.Errno { return h.nice(pid, nice) })
		}
	}
	for _, pid := range []int{1, 2, 3, 5, 10} {
		for _, nice := range niceless {
			h.kept(api.ErrArg, func() api.Errno { return h.nice(pid, nice) })
		}
	}
	h.must(h.nice(1, 19), api.OK)
	h.spawned(1, -3, 7) // a child's nice value is not its parent's
	h.is(runner(7, 1, -3))
	h.is(runner(1, 0, 19))
}

// TestGet holds P14.6 for numbers that are there and for those that are not.
func TestGet(t *testing.T) {
	h := town(t)
	for _, p := range townsfolk() {
		h.is(p)
	}
	for _, pid := range append([]int{7, 12, 13}, great...) {
		h.gone(pid)
	}
	alone := hold(t, 1)
	alone.is(runner(1, 0, 0))
	alone.gone(2)
}

// TestAll holds that all processes are returned in ascending order, in memory that is nobody else's.
func TestAll(t *testing.T) {
	h := town(t)
	h.spawned(10, 9, 7)
	want := slices.Insert(townsfolk(), 6, runner(7, 10, 9))
	a, b := h.x.All(), h.x.All()
	if !slices.Equal(a, want) || !slices.Equal(b, want) {
		t.Fatalf("All() = %+v, then %+v; want %+v", a, b, want)
	}
	for _, l := range [][]api.Proc{a, a[len(a):cap(a)]} {
		for i := range l {
			l[i] = ended(99, 99, 99, 99)
		}
	}
	spare := b[len(b):cap(b)]
	for i := range spare {
		spare[i] = ended(98, 98, 98, 98)
	}
	if !slices.Equal(b, want) {
		t.Errorf("what All() has returned became %+v", b)
	}
	h.all(want...)
	h.check()
	h.exited(10, 1)
	h.must(h.nice(7, 1), api.OK)
	if !slices.Equal(b, want) {
		t.Errorf("what All() has returned became %+v", b)
	}
}

// TestMany holds All, Get and the selection of children in the greatest table that there is.
func TestMany(t *testing.T) {
	h := hold(t, 1024)
	for pid := 2; pid <= 1024; pid++ {
		h.spawned(pid/3+1-pid/1000, pid%40-20, pid)
	}
	h.check()
	h.whole()
	for pid := 2; pid <= 1024; pid += 3 {
		h.exited(pid, -pid)
	}
	h.check()
	h.whole()
	for {
		if _, e := h.wait(1, 0); e != api.OK {
			h.must(e, api.ErrAgain)
			break
		}
	}
	h.check()
	h.whole()
	for pid := range h.pids() {
		h.undo(pid)
	}
	h.check()
	h.whole()
}

// TestNil holds R4: no call has returned a table that is nil or empty.
func TestNil(t *testing.T) {
	for _, x := range []*proc.Table{nil, {}} {
		for _, n := range append([]int{1, 2, 1024}, great...) {
			for _, m := range []int{least, -21, -1, 0, 1, 19, 20, greatest} {
				if pid, e := x.Spawn(n, m); pid != 0 || e != api.ErrNil {
					t.Errorf("Spawn(%d, %d) = %d, %d", n, m, pid, e)
				}
				if e := x.Exit(n, m); e != api.ErrNil {
					t.Errorf("Exit(%d, %d) = %d", n, m, e)
				}
				if p, e := x.Wait(n, m); p != (api.Proc{}) || e != api.ErrNil {
					t.Errorf("Wait(%d, %d) = %+v, %d", n, m, p, e)
				}
				if e := x.Nice(n, m); e != api.ErrNil {
					t.Errorf("Nice(%d, %d) = %d", n, m, e)
				}
			}
			if e := x.Undo(n); e != api.ErrNil {
				t.Errorf("Undo(%d) = %d", n, e)
			}
			if p, ok := x.Get(n); p != (api.Proc{}) || ok {
				t.Errorf("Get(%d) = %+v, %t", n, p, ok)
			}
		}
		if l := x.All(); len(l) != 0 {
			t.Errorf("All() = %+v", l)
		}
	}
}

// worlds are tables of every sort: alone, with room, full, and full of ended ones.
func worlds() map[string]func(t *testing.T) *held {
	return map[string]func(t *testing.T) *held{
		"alone": func(t *testing.T) *held { return hold(t, 1) },
		"young": func(t *testing.T) *held { return hold(t, 3) },
		"town":  town,
		"full town": func(t *testing.T) *held {
			h := town(t)
			h.spawned(10, 0, 7)
			h.spawned(7, 0, 12)
			return h
		},
		"all ended": func(t *testing.T) *held {
			h := hold(t, 4)
			for pid := 2; pid <= 4; pid++ {
				h.spawned(pid-1, pid, pid)
			}
			for pid := 2; pid <= 4; pid++ {
				h.exited(pid, pid*10)
			}
			return h
		},
		"all undone": func(t *testing.T) *held {
			h := hold(t, 3)
			h.spawned(1, 1, 2)
			h.spawned(2, 2, 3)
			h.must(h.undo(3), api.OK)
			h.must(h.undo(2), api.OK)
			return h
		},
	}
}

// TestOrders makes each call in each world with each pair of numbers. A call that is refused has changed nothing; the world in which one was not is left.
func TestOrders(t *testing.T) {
	firsts := append([]int{1, 2, 3, 4, 5, 6, 7, 8, 9, 10, 11, 12, 13, 1023, 1024}, great...)
	seconds := slices.Concat(firsts, []int{-21, -20, -19, 18, 19, 20, 21})
	calls := []func(h *held, n, m int) api.Errno{
		func(h *held, n, m int) api.Errno { _, e := h.spawn(n, m); return e },
		func(h *held, n, m int) api.Errno { return h.exit(n, m) },
		func(h *held, n, m int) api.Errno { _, e := h.wait(n, m); return e },
		func(h *held, n, m int) api.Errno { return h.nice(n, m) },
		func(h *held, n, m int) api.Errno { return h.undo(n) },
	}
	for name, world := range worlds() {
		t.Run(name, func(t *testing.T) {
			h := world(t)
			for _, call := range calls {
				for _, n := range firsts {
					for _, m := range seconds {
						before := h.x.All()
						e := call(h, n, m)
						h.check()
						h.whole()
						if e == api.OK {
							h = world(t)
						} else {
							h.all(before...)
						}
					}
				}
			}
		})
	}
}

// TestStates makes each of some calls in every state to which they lead, with four processes.
func TestStates(t *testing.T) {
	const procs = 4
	var calls []func(h *held)
	for pid := 0; pid <= procs+1; pid++ {
		calls = append(calls,
			func(h *held) { h.spawn(pid, 0) },
			func(h *held) { h.spawn(pid, 20) },
			func(h *held) { h.exit(pid, 5) },
			func(h *held) { h.undo(pid) },
			func(h *held) { h.nice(pid, -7) },
			func(h *held) { h.nice(pid, -21) })
		for child := -1; child <= procs+1; child++ {
			calls = append(calls, func(h *held) { h.wait(pid, child) })
		}
	}
	replay := func(history []int) *held {
		h := hold(t, procs)
		for _, i := range history {
			calls[i](h)
		}
		return h
	}
	known := map[string]int{newModel(procs).text(): 1}
	states := [][]int{nil}
	for at := 0; at < len(states); at++ {
		h := replay(states[at])
		before := h.m.text()
		for i, call := range calls {
			call(h)
			h.check()
			after := h.m.text()
			if after == before {
				continue
			}
			h.whole()
			if known[after] == 0 {
				known[after] = 1
				states = append(states, append(slices.Clone(states[at]), i))
			}
			h = replay(states[at])
		}
	}
	t.Logf("%d states", len(states))
}

// walker makes random calls.
type walker struct {
	*rand.Rand
	*held
}

// pid is often that of a process that is there.
func (w walker) pid() int {
	switch l := w.m.all(); w.Intn(20) {
	case 0:
		return great[w.Intn(len(great))]
	case 1:
		return w.Intn(len(w.m.at)+3) - 1
	default:
		return l[w.Intn(len(l))].Pid
	}
}

// value is often a nice value.
func (w walker) value() int {
	if w.Intn(15) == 0 {
		return niceless[w.Intn(len(niceless))]
	}
	return w.Intn(40) - 20
}

// child is often a child of the parent.
func (w walker) child(parent int) int {
	if kids := w.m.kids(parent); len(kids) > 0 && w.Intn(3) > 0 {
		return kids[w.Intn(len(kids))]
	}
	if w.Intn(2) == 0 {
		return 0
	}
	return w.pid()
}

// act makes a random call.
func (w walker) act() {
	pid := w.pid()
	switch call := w.Intn(20); {
	case call < 9:
		w.spawn(pid, w.value())
	case call < 12:
		w.exit(pid, codes[w.Intn(len(codes))])
	case call < 17:
		w.wait(pid, w.child(pid))
	case call < 18:
		w.undo(pid)
	default:
		w.nice(pid, w.value())
	}
}

// TestRandom holds long runs of random calls against the model, and P14.7 after each of them.
func TestRandom(t *testing.T) {
	for seed := range 96 {
		r := rand.New(rand.NewSource(int64(seed)))
		w := walker{r, hold(t, []int{1, 2, 3, 4, 6, 9, 20, 100}[seed%8])}
		for range 2000 {
			w.act()
			w.check()
			w.whole()
		}
	}
}

// TestReportedOnce ends each process with a code of its own: each code is reported once, by Wait of the one that was the parent then, and none is reported that no process has ended with.
func TestReportedOnce(t *testing.T) {
	for seed := range 60 {
		r := rand.New(rand.NewSource(int64(seed)))
		w := walker{r, hold(t, []int{2, 4, 9, 40}[seed%4])}
		pending := map[int]int{} // who has ended with a code that was not reported
		wait := func(parent, child int) api.Errno {
			before := w.x.All()
			p, e := w.x.Wait(parent, child)
			w.m.wait(parent, child)
			if e != api.OK {
				return e
			}
			if p.Parent != parent || p.State != api.PZombie || !slices.Contains(before, p) || pending[p.Code] != p.Pid {
				t.Fatalf("Wait(%d, %d) = %+v after %+v, with %v pending", parent, child, p, before, pending)
			}
			delete(pending, p.Code)
			return e
		}
		for code := 1; code <= 3000; code++ {
			pid := w.pid()
			switch r.Intn(4) {
			case 0:
				if w.exit(pid, code) == api.OK {
					pending[code] = pid
				}
			case 1:
				wait(pid, w.child(pid))
			default:
				w.spawn(pid, 0)
			}
		}
		for _, p := range w.x.All()[1:] {
			if p.State == api.PRun {
				w.exited(p.Pid, -p.Pid)
				pending[-p.Pid] = p.Pid
			}
		}
		for wait(1, 0) == api.OK {
		}
		if len(pending) > 0 {
			t.Fatalf("codes that were not reported: %v", pending)
		}
		w.all(runner(1, 0, 0))
		w.check()
	}
}

// TestNoTrace makes the same calls on two tables, of one of which processes are spawned and undone again and again: that can't be seen.
func TestNoTrace(t *testing.T) {
	for seed := range 60 {
		r := rand.New(rand.NewSource(int64(seed)))
		w := walker{r, hold(t, []int{2, 4, 9, 40}[seed%4])}
		for range 600 {
			before := w.x.All()
			for parent := range w.m.at {
				w.traceless(parent, 1+r.Intn(3))
			}
			w.all(before...)
			w.act()
			w.check()
		}
	}
}

// traceless spawns processes by the table alone, each the child of the one before, and undoes them, the last one first.
func (w walker) traceless(parent, n int) {
	w.t.Helper()
	pid, e := w.x.Spawn(parent, w.Intn(40)-20)
	if e != api.OK {
		return
	}
	if n > 1 {
		w.traceless(pid, n-1)
	}
	if e := w.x.Undo(pid); e != api.OK {
		w.t.Fatalf("Undo(%d) = %d", pid, e)
	}
	w.gone(pid)
}

// TestTablesApart holds R4: what is called on one table changes nothing of another one.
func TestTablesApart(t *testing.T) {
	a, b := town(t), town(t)
	c := hold(t, 2)
	a.exited(2, 1)
	a.told(1, 6, ended(6, 1, -6, 1))
	a.must(a.nice(1, 5), api.OK)
	b.all(townsfolk()...)
	c.all(runner(1, 0, 0))
	c.spawned(1, 3, 2)
	b.must(b.undo(10), api.OK)
	a.check()
	b.check()
	c.check()
}
