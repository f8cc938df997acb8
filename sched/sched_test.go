package sched_test

import (
	"math"
	"math/rand"
	"slices"
	"strconv"
	"testing"

	"hayward/api"
	"hayward/sched"
	"hayward/share"
)

// The signatures are part of the chapter.
var (
	_ func() *sched.Queue                                = sched.New
	_ func(q *sched.Queue, pid, nice int) api.Errno      = (*sched.Queue).Add
	_ func(q *sched.Queue, pid int) api.Errno            = (*sched.Queue).Remove
	_ func(q *sched.Queue, pid int) api.Errno            = (*sched.Queue).Block
	_ func(q *sched.Queue, pid int) api.Errno            = (*sched.Queue).Wake
	_ func(q *sched.Queue, pid, nice int) api.Errno      = (*sched.Queue).Nice
	_ func(q *sched.Queue) (int, api.Errno)              = (*sched.Queue).Next
	_ func(q *sched.Queue, p float64) (int, api.Errno)   = (*sched.Queue).Lot
	_ func(q *sched.Queue, pid int) (float64, api.Errno) = (*sched.Queue).Load
	_ func(q *sched.Queue, pid int) (float64, api.Errno) = (*sched.Queue).Share
	_ func(q *sched.Queue) []int                         = (*sched.Queue).Ready
)

// below1 is the greatest number below 1, nought the one with a sign.
var (
	below1 = math.Nextafter(1, 0)
	nought = math.Copysign(0, -1)
)

var (
	// nobody are numbers that no process has.
	nobody = []int{least, least + 1, least + 2, -1 << 32, 1 - 1<<32, -1 << 16, -1000, -3, -2, -1, 0}
	// distant are numbers that processes may have, and that would be others' if they were cut off to fewer bits.
	distant = []int{128, 129, 255, 256, 257, 1024, 1025, 1<<16 + 1, 1<<31 - 1, 1 << 31, 1 << 32, 1<<32 + 1, 1<<32 + 2, 1<<62 + 2, greatest - 1, greatest}
	// nices are at the edges of the levels, niceless are no nice values.
	nices    = []int{-20, -13, -12, -5, -4, 0, 3, 4, 11, 12, 19}
	niceless = []int{least, least + 1, -1 << 32, 3 - 1<<32, -1 << 16, -257, -256, -28, -22, -21, 20, 21, 27, 28, 255, 256, 1 << 16, 1 << 32, 1<<32 + 3, greatest - 1, greatest}
	// parts are numbers by which a lot is drawn, partless are those that are refused.
	parts    = []float64{0, nought, math.SmallestNonzeroFloat64, 0x1p-1022, 1e-300, 1e-9, 0.1, 0.25, 0.5, 0.75, 0.9, math.Nextafter(below1, 0), below1}
	partless = []float64{-math.SmallestNonzeroFloat64, -1e-300, -0.5, -below1, -1, -2, -math.MaxFloat64, math.Inf(-1), 1, math.Nextafter(1, 2), 1.5, 2, 1e300, math.MaxFloat64, math.Inf(1), math.NaN(), math.Float64frombits(0x7FF0000000000001), math.Float64frombits(0xFFF8000000000000)}
)

// firsts are the first nice values of the levels, levelNices all of them.
var firsts = []int{-20, -12, -4, 4, 12}

func levelNices(level int) []int {
	var out []int
	for i := range 8 {
		out = append(out, firsts[level]+i)
	}
	return out
}

// order demands the order of the ready processes, by numbers of the test itself.
func (h *held) order(want ...int) {
	h.t.Helper()
	if got := h.x.Ready(); !slices.Equal(got, want) {
		h.t.Fatalf("Ready() = %v; want %v", got, want)
	}
}

// turns demands who runs, call by call of Next.
func (h *held) turns(want ...int) {
	h.t.Helper()
	for i, pid := range want {
		if got, e := h.next(); got != pid || e != api.OK {
			h.t.Fatalf("call %d of Next() = %d, %d; want %d", i, got, e, pid)
		}
	}
}

// drawn demands who runs by lot.
func (h *held) drawn(p float64, want int) {
	h.t.Helper()
	if got, e := h.lot(p); got != want || e != api.OK {
		h.t.Fatalf("Lot(%v) = %d, %d; want %d", p, got, e, want)
	}
}

// loads demands the loads of the processes 1, 2 and so on.
func (h *held) loads(want ...float64) {
	h.t.Helper()
	for i, x := range want {
		if got, e := h.load(i + 1); got != x || e != api.OK {
			h.t.Fatalf("Load(%d) = %v, %d; want %v", i+1, got, e, x)
		}
	}
}

// quotient is a weight's part of all, which are added from left to right: constants would not be rounded by each sum.
func quotient(w float64, all ...float64) float64 {
	sum := 0.0
	for _, x := range all {
		sum += x
	}
	return w / sum
}

// has demands a process's share.
func (h *held) has(pid int, want float64) {
	h.t.Helper()
	if got, e := h.share(pid); got != want || e != api.OK {
		h.t.Fatalf("Share(%d) = %v, %d; want %v", pid, got, e, want)
	}
}

// sight is all that can be seen of a queue's processes.
func (h *held) sight() string {
	out := ""
	tell := func(x float64, e api.Errno) {
		out += " " + strconv.FormatUint(math.Float64bits(x), 16) + "/" + strconv.Itoa(int(e))
	}
	for _, pid := range h.x.Ready() {
		out += " " + strconv.Itoa(pid)
	}
	for _, pid := range append([]int{-1, 0, 1, 2, 3, 4, 5}, h.m.pids()...) {
		tell(h.x.Load(pid))
		tell(h.x.Share(pid))
	}
	return out
}

// kept makes a call that must be refused, and demands that nothing has changed then.
func (h *held) kept(want api.Errno, call func() api.Errno) {
	h.t.Helper()
	before := h.sight()
	h.must(call(), want)
	if after := h.sight(); after != before {
		h.t.Fatalf("a call that was answered %d changed%s to%s", want, before, after)
	}
}

// added takes in processes of one nice value.
func (h *held) added(nice int, pids ...int) {
	h.t.Helper()
	for _, pid := range pids {
		h.must(h.add(pid, nice), api.OK)
	}
}

// blocked keeps processes from running.
func (h *held) blocked(pids ...int) {
	h.t.Helper()
	for _, pid := range pids {
		h.must(h.block(pid), api.OK)
	}
}

// town is a queue in which there is something of every sort; 5 and 14 are not there.
func town(t *testing.T) *held {
	t.Helper()
	h := hold(t)
	h.added(0, 3, 1, 2, 5)
	h.added(19, 9)
	h.added(-20, 7, 6)
	h.added(12, 8, 10)
	h.added(4, 11)
	h.added(-12, 12, 13)
	h.added(-4, 4)
	h.turns(7, 6, 7)
	h.drawn(0, 1)
	h.drawn(below1, 13)
	h.drawn(0.5, 7)
	h.blocked(13, 7, 10, 2)
	h.must(h.remove(5), api.OK)
	h.must(h.nice(10, -3), api.OK)
	h.order(6, 12, 3, 1, 4, 11, 9, 8)
	return h
}

// TestExamples are the chapter's, one row after the other.
func TestExamples(t *testing.T) {
	h := hold(t)
	h.added(0, 1, 2)
	h.added(19, 3)
	h.turns(1, 2, 1)
	h.loads(0.625, 0.25, 0)
	h.blocked(1, 2)
	h.turns(3)
	h.must(h.wake(2), api.OK)
	h.order(2, 3)
	h.drawn(0, 2)
	h.kept(api.ErrArg, func() api.Errno { _, e := h.lot(1); return e })
	h.kept(api.ErrArg, func() api.Errno { _, e := h.share(1); return e })
	h.check()
	h.whole()
}

// TestNew holds that a new queue has no processes.
func TestNew(t *testing.T) {
	h := hold(t)
	h.order()
	for _, pid := range slices.Concat(nobody, []int{1, 2, 3}, distant) {
		if x, e := h.load(pid); x != 0 || e != api.ErrSrch {
			t.Errorf("Load(%d) = %v, %d", pid, x, e)
		}
	}
	h.kept(api.ErrAgain, func() api.Errno { _, e := h.next(); return e })
	h.kept(api.ErrAgain, func() api.Errno { _, e := h.lot(0); return e })
	h.check()
}

// TestAdd holds P15.1 for numbers and nice values that are taken, and for those that aren't.
func TestAdd(t *testing.T) {
	for _, pid := range nobody {
		for _, nice := range slices.Concat(nices, niceless) {
			h := town(t)
			h.kept(api.ErrArg, func() api.Errno { return h.add(pid, nice) })
		}
	}
	for _, pid := range append([]int{1, 2, 3, 5, 14}, distant...) {
		for _, nice := range niceless {
			h := town(t)
			h.kept(api.ErrArg, func() api.Errno { return h.add(pid, nice) })
		}
		for _, nice := range nices {
			h := town(t)
			if _, there := h.m.at[pid]; there {
				h.kept(api.ErrExist, func() api.Errno { return h.add(pid, nice) })
			} else {
				h.must(h.add(pid, nice), api.OK)
				h.kept(api.ErrExist, func() api.Errno { return h.add(pid, nice) })
				h.kept(api.ErrExist, func() api.Errno { return h.add(pid, 1) })
				h.kept(api.ErrArg, func() api.Errno { return h.add(pid, -21) })
			}
			h.check()
			h.whole()
			h.deep()
		}
	}
}

// TestAddDistant holds that numbers are told apart by all of their bits, and are in order by all of them.
func TestAddDistant(t *testing.T) {
	h := hold(t)
	l := append([]int{1, 2}, distant...)
	for _, pid := range slices.Backward(l) {
		h.added(0, pid)
		h.check()
	}
	slices.Reverse(l)
	h.order(l...)
	h.turns(greatest, greatest-1)
	h.drawn(0, 1)
	h.drawn(below1, greatest)
	h.blocked(1, greatest)
	h.drawn(0, 2)
	h.drawn(below1, greatest-1)
	h.check()
	h.whole()
	h.deep()
}

// TestLevels holds which level each nice value belongs to: a process is behind the one that was there before, and ahead of the next level's.
func TestLevels(t *testing.T) {
	for level := range firsts {
		for _, nice := range levelNices(level) {
			for _, other := range levelNices(level) {
				h := hold(t)
				for i, first := range firsts {
					h.added(first+7*(i%2), 10+i)
				}
				h.must(h.nice(10+level, other), api.OK)
				h.added(nice, 1)
				want := slices.Insert([]int{10, 11, 12, 13, 14}, level+1, 1)
				h.order(want...)
				h.must(h.wakeAgain(10+level), api.OK)
				want[level], want[level+1] = want[level+1], want[level]
				h.order(want...)
				h.check()
			}
		}
	}
}

// wakeAgain blocks a process and wakes it.
func (h *held) wakeAgain(pid int) api.Errno {
	h.t.Helper()
	h.blocked(pid)
	return h.wake(pid)
}

// TestAddAgain holds that a process that was removed and added is as one that has never been there.
func TestAddAgain(t *testing.T) {
	for _, block := range []bool{false, true} {
		h := hold(t)
		h.added(0, 1, 2, 3)
		h.turns(1, 2, 3, 1)
		h.loads(0.5+0.0625, 0.125, 0.25)
		if block {
			h.blocked(2)
		}
		h.must(h.remove(2), api.OK)
		h.kept(api.ErrSrch, func() api.Errno { return h.remove(2) })
		h.must(h.add(2, 1), api.OK)
		h.order(3, 1, 2)
		h.loads(0.5+0.0625, 0, 0.25)
		h.has(2, quotient(819.2, 1024, 819.2, 1024))
		h.kept(api.ErrArg, func() api.Errno { return h.wake(2) })
		h.turns(3, 1, 2)
		h.check()
		h.whole()
		h.deep()
	}
}

// TestRemove holds P15.1 for each process of a level, ready and blocked, and for those that are not there.
func TestRemove(t *testing.T) {
	for i, pid := range []int{4, 2, 5, 1, 3} {
		for _, block := range []bool{false, true} {
			h := hold(t)
			h.added(19, 8)
			h.added(0, 4, 2, 5, 1, 3)
			h.added(-20, 9)
			if block {
				h.blocked(pid)
			}
			h.must(h.remove(pid), api.OK)
			rest := slices.Delete([]int{4, 2, 5, 1, 3}, i, i+1)
			h.order(slices.Concat([]int{9}, rest, []int{8})...)
			h.check()
			h.blocked(9)
			h.turns(slices.Concat(rest, rest)...)
			h.kept(api.ErrSrch, func() api.Errno { return h.remove(pid) })
			h.deep()
		}
	}
	h := town(t)
	for _, pid := range slices.Concat(nobody, []int{5, 14}, distant) {
		h.kept(api.ErrSrch, func() api.Errno { return h.remove(pid) })
	}
	for _, pid := range []int{13, 6, 8, 1, 2, 3, 10, 4, 7, 12, 9, 11} {
		h.must(h.remove(pid), api.OK)
		h.check()
		h.whole()
	}
	h.order()
	h.deep()
}

// TestRemoveLoads holds that the loads of the others stay as they are.
func TestRemoveLoads(t *testing.T) {
	h := hold(t)
	h.added(0, 1, 2, 3)
	h.turns(1, 2, 3)
	h.must(h.remove(3), api.OK)
	h.loads(0.125, 0.25)
	h.turns(1)
	h.loads(0.5625, 0.125)
	h.must(h.remove(1), api.OK)
	if x, e := h.load(1); x != 0 || e != api.ErrSrch {
		t.Errorf("Load(1) = %v, %d", x, e)
	}
	h.turns(2)
	h.kept(api.ErrSrch, func() api.Errno { return h.remove(1) })
	h.check()
}

// TestBlockAndWake holds P15.2 for each process of a level.
func TestBlockAndWake(t *testing.T) {
	for i, pid := range []int{4, 2, 5, 1, 3} {
		h := hold(t)
		h.added(19, 8)
		h.added(0, 4, 2, 5, 1, 3)
		h.added(-20, 9)
		h.kept(api.ErrArg, func() api.Errno { return h.wake(pid) })
		h.blocked(pid)
		rest := slices.Delete([]int{4, 2, 5, 1, 3}, i, i+1)
		h.order(slices.Concat([]int{9}, rest, []int{8})...)
		h.kept(api.ErrArg, func() api.Errno { return h.block(pid) })
		h.must(h.wake(pid), api.OK)
		h.order(slices.Concat([]int{9}, rest, []int{pid, 8})...)
		h.kept(api.ErrArg, func() api.Errno { return h.wake(pid) })
		h.check()
		h.deep()
	}
	h := town(t)
	for _, pid := range slices.Concat(nobody, []int{5, 14}, distant) {
		h.kept(api.ErrSrch, func() api.Errno { return h.block(pid) })
		h.kept(api.ErrSrch, func() api.Errno { return h.wake(pid) })
	}
	for _, pid := range []int{13, 7, 10, 2} {
		h.kept(api.ErrArg, func() api.Errno { return h.block(pid) })
	}
	for _, pid := range []int{6, 12, 3, 1, 4, 11, 9, 8} {
		h.kept(api.ErrArg, func() api.Errno { return h.wake(pid) })
	}
	h.check()
	h.deep()
}

// TestWakeOrder holds that processes are in the order in which they were woken, whatever their numbers and their blocking were.
func TestWakeOrder(t *testing.T) {
	h := hold(t)
	h.added(3, 1, 2, 3, 4)
	h.added(4, 5)
	h.blocked(2, 1, 4, 3)
	h.order(5)
	for i, pid := range []int{3, 1, 4, 2} {
		h.must(h.wake(pid), api.OK)
		h.order(append([]int{3, 1, 4, 2}[:i+1:i+1], 5)...)
	}
	h.turns(3, 1, 4, 2, 3)
	h.check()
}

// TestWakeExample is the example of P15.2.
func TestWakeExample(t *testing.T) {
	h := hold(t)
	h.added(0, 1, 2)
	h.added(19, 3)
	h.blocked(1, 2)
	h.must(h.wake(2), api.OK)
	h.order(2, 3)
}

// TestNice holds P15.2 for each two nice values, of a process that is ready and of one that is blocked.
func TestNice(t *testing.T) {
	for from := -20; from <= 19; from++ {
		for to := -20; to <= 19; to++ {
			for _, block := range []bool{false, true} {
				h := hold(t)
				row := map[int][]int{}
				for i, nice := range firsts {
					h.added(nice, 10*i+1, 10*i+3)
					row[i] = []int{10*i + 1, 10*i + 3}
				}
				l := levelOf(from)
				h.blocked(row[l][1]) // so that process 2 is a middle one
				h.added(from, 2)
				h.must(h.wake(row[l][1]), api.OK)
				row[l] = slices.Insert(row[l], 1, 2)
				if block {
					h.blocked(2)
				}
				h.must(h.nice(2, to), api.OK)
				if block {
					h.order(1, 3, 11, 13, 21, 23, 31, 33, 41, 43)
					h.must(h.wake(2), api.OK)
				}
				if block || levelOf(to) != l {
					row[l] = slices.Delete(row[l], 1, 2)
					row[levelOf(to)] = append(row[levelOf(to)], 2)
				}
				h.order(slices.Concat(row[0], row[1], row[2], row[3], row[4])...)
				h.check()
			}
		}
	}
}

// TestNiceRefused holds the errors of Nice, in their order.
func TestNiceRefused(t *testing.T) {
	h := town(t)
	for _, pid := range slices.Concat(nobody, []int{5, 14}, distant) {
		for _, nice := range slices.Concat(nices, niceless) {
			h.kept(api.ErrSrch, func() api.Errno { return h.nice(pid, nice) })
		}
	}
	for _, pid := range h.m.pids() {
		for _, nice := range niceless {
			h.kept(api.ErrArg, func() api.Errno { return h.nice(pid, nice) })
		}
	}
	h.check()
	h.deep()
}

// TestNiceKeeps holds that the load stays, that the weight is another one at once, and that no level is changed by the same nice value.
func TestNiceKeeps(t *testing.T) {
	h := hold(t)
	h.added(0, 1, 2, 3)
	h.turns(1, 2)
	h.must(h.nice(3, 0), api.OK)
	h.must(h.nice(2, -1), api.OK)
	h.order(3, 1, 2)
	h.loads(0.25, 0.5, 0)
	h.has(2, 1280.0/3328)
	h.has(3, 1024.0/3328)
	h.must(h.nice(3, 19), api.OK)
	h.must(h.nice(3, 0), api.OK)
	h.order(1, 2, 3)
	h.must(h.nice(1, -20), api.OK)
	h.must(h.nice(2, -20), api.OK)
	h.must(h.nice(3, -20), api.OK)
	h.order(1, 2, 3)
	h.loads(0.25, 0.5, 0)
	h.check()
	h.whole()
}

// TestWakeLevel holds to which level a process wakes whose nice value has changed more than once while it was blocked.
func TestWakeLevel(t *testing.T) {
	for _, mid := range nices {
		for _, to := range nices {
			h := town(t)
			h.must(h.nice(2, mid), api.OK)
			h.kept(api.ErrArg, func() api.Errno { return h.nice(2, 20) })
			h.must(h.nice(2, to), api.OK)
			h.order(6, 12, 3, 1, 4, 11, 9, 8)
			h.must(h.wake(2), api.OK)
			at := map[int]int{0: 1, 1: 2, 2: 5, 3: 6, 4: 8}[levelOf(to)]
			h.order(slices.Insert([]int{6, 12, 3, 1, 4, 11, 9, 8}, at, 2)...)
			h.check()
			h.deep()
		}
	}
}

// TestNext holds P15.3 for none, for one, and for several of one level and of several.
func TestNext(t *testing.T) {
	h := hold(t)
	none := func() api.Errno {
		pid, e := h.next()
		if pid != 0 {
			t.Errorf("Next() = %d", pid)
		}
		return e
	}
	h.kept(api.ErrAgain, none)
	h.added(19, 7)
	h.turns(7, 7, 7)
	h.blocked(7)
	h.kept(api.ErrAgain, none)
	h.added(0, 5)
	h.blocked(5)
	h.kept(api.ErrAgain, none)
	h.must(h.wake(7), api.OK)
	h.turns(7, 7)
	h.added(18, 3, 4)
	h.turns(7, 3, 4, 7, 3)
	h.order(4, 7, 3)
	h.added(11, 9, 8)
	h.turns(9, 8, 9)
	h.order(8, 9, 4, 7, 3)
	h.added(-13, 1)
	h.turns(1, 1, 1)
	h.order(1, 8, 9, 4, 7, 3)
	h.must(h.wake(5), api.OK)
	h.turns(1)
	h.must(h.remove(1), api.OK)
	h.turns(5, 5)
	h.blocked(5)
	h.turns(8)
	h.must(h.remove(8), api.OK)
	h.must(h.remove(9), api.OK)
	h.turns(4, 7, 3, 4)
	h.check()
	h.whole()
	for _, pid := range []int{3, 4, 5, 7} {
		h.must(h.remove(pid), api.OK)
	}
	h.kept(api.ErrAgain, none)
}

// TestNextLevels holds that each of the levels in turn is the first one that has ready processes.
func TestNextLevels(t *testing.T) {
	for set := range 1 << 5 {
		h := hold(t)
		first := 0
		for level := 4; level >= 0; level-- {
			h.added(firsts[level]+7, 20+level, 10+level)
			if set>>level%2 == 0 {
				h.blocked(10+level, 20+level)
			} else {
				first = 20 + level
			}
		}
		if first == 0 {
			h.kept(api.ErrAgain, func() api.Errno { _, e := h.next(); return e })
			continue
		}
		h.turns(first, first-10, first, first-10, first)
		h.check()
		h.whole()
		h.deep()
	}
}

// TestLoads holds that each run changes the loads of all, ready or not, and what they are then.
func TestLoads(t *testing.T) {
	h := hold(t)
	h.added(0, 1, 2)
	h.added(19, 3)
	h.added(-20, 4)
	h.loads(0, 0, 0, 0)
	h.turns(4)
	h.loads(0, 0, 0, 0.5)
	h.turns(4)
	h.loads(0, 0, 0, 0.75)
	h.blocked(4)
	h.loads(0, 0, 0, 0.75)
	h.turns(1)
	h.loads(0.5, 0, 0, 0.375)
	h.drawn(below1, 3)
	h.loads(0.25, 0, 0.5, 0.1875)
	h.drawn(0, 1)
	h.loads(0.625, 0, 0.25, 0.09375)
	h.blocked(1)
	h.turns(2, 2)
	h.loads(0.15625, 0.75, 0.0625, 0.0234375)
	h.must(h.wake(4), api.OK)
	h.must(h.nice(4, 19), api.OK)
	h.must(h.remove(2), api.OK)
	h.turns(3, 4)
	h.loads(0.0390625)
	for pid, want := range map[int]float64{3: 0.265625, 4: 0.505859375} {
		if x, e := h.load(pid); x != want || e != api.OK {
			t.Errorf("Load(%d) = %v, %d; want %v", pid, x, e, want)
		}
	}
	h.check()
	h.whole()
}

// TestLoadsToTheEnds holds the loads run after run, until one is 1 and another one has become nothing.
func TestLoadsToTheEnds(t *testing.T) {
	h := hold(t)
	h.added(0, 1, 2)
	h.turns(1)
	h.blocked(1)
	one, two := 0.5, 0.0
	for k := 2; k < 1200; k++ {
		h.turns(2)
		one, _ = share.Decay(one, 0, 1)
		two, _ = share.Decay(two, 1, 1)
		h.loads(one, two)
		if k < 1075 && one != math.Ldexp(1, -k) || k >= 1075 && one != 0 {
			t.Fatalf("Load(1) = %v after %d runs", one, k)
		}
		if k <= 54 && two != 1-math.Ldexp(1, 1-k) || k > 54 && two != 1 {
			t.Fatalf("Load(2) = %v after %d runs", two, k)
		}
		h.whole()
	}
	h.must(h.wake(1), api.OK)
	h.drawn(0, 1)
	h.loads(0.5, 0.5)
}

// TestLot holds P15.4: who has which part of the weights, in ascending order of the numbers, whatever the levels are.
func TestLot(t *testing.T) {
	h := hold(t)
	h.added(-1, 4) // 1280
	h.added(0, 3)
	h.blocked(3)
	h.added(1, 2) // 819.2
	h.added(0, 1) // 1024 of 3123.2
	h.added(-20, 5)
	h.blocked(5)
	for _, c := range []struct {
		p   float64
		pid int
	}{
		{0, 1}, {nought, 1}, {math.SmallestNonzeroFloat64, 1}, {0x1p-1022, 1}, {0.3, 1}, {0.3278, 1}, {0.3279, 2}, {0.5, 2}, {0.5901, 2}, {0.5902, 4}, {0.75, 4}, {math.Nextafter(below1, 0), 4}, {below1, 4},
	} {
		h.drawn(c.p, c.pid)
		h.order(4, 2, 1)
		h.check()
		h.whole()
	}
	for i := range 2000 {
		h.lot(float64(i) / 2000)
	}
	h.order(4, 2, 1)
	h.check()
	h.deep()
}

// TestLotLevels holds that no level is ahead of another one in a lot, and that no order is changed by it, but loads are.
func TestLotLevels(t *testing.T) {
	h := hold(t)
	h.added(19, 2)
	h.added(-20, 3, 1)
	h.added(3, 4)
	h.drawn(0, 1)
	h.order(3, 1, 4, 2)
	h.loads(0.5, 0, 0, 0)
	h.drawn(below1, 4)
	h.loads(0.25, 0, 0, 0.5)
	h.blocked(1, 3)
	h.drawn(0, 2)
	h.drawn(0.1, 4)
	h.loads(0.0625, 0.25, 0, 0.625)
	h.order(4, 2)
	h.turns(4, 4)
	h.check()
	h.whole()
	h.deep()
}

// TestLotEqual draws lots among processes of one weight: each has the same part, from its beginning on.
func TestLotEqual(t *testing.T) {
	for _, n := range []int{1, 2, 4, 8, 64} {
		h := hold(t)
		for i := range n {
			h.added(0, (i*5)%n+1)
		}
		want := h.x.Ready()
		for i := range n {
			p := float64(i) / float64(n)
			h.drawn(p, i+1)
			h.drawn(math.Nextafter(p, 1), i+1)
			h.drawn(math.Nextafter(p+1/float64(n), 0), i+1)
		}
		h.order(want...)
		h.check()
		h.whole()
	}
}

// TestLotRefused holds the errors of Lot, in their order.
func TestLotRefused(t *testing.T) {
	empty := hold(t)
	idle := hold(t)
	idle.added(0, 1, 2)
	idle.turns(1)
	idle.blocked(1, 2)
	for _, h := range []*held{empty, idle, town(t)} {
		lot := func(p float64) func() api.Errno {
			return func() api.Errno {
				pid, e := h.lot(p)
				if pid != 0 {
					t.Errorf("Lot(%v) = %d, %d", p, pid, e)
				}
				return e
			}
		}
		for _, p := range partless {
			h.kept(api.ErrArg, lot(p))
		}
		for _, p := range parts {
			if len(h.x.Ready()) == 0 {
				h.kept(api.ErrAgain, lot(p))
			}
		}
		h.check()
		h.deep()
	}
	h := hold(t)
	h.added(0, 6)
	for _, p := range parts {
		h.drawn(p, 6)
	}
	h.check()
}

// TestLotGrows holds that a greater number never draws a process of a lower one, in queues of all sorts.
func TestLotGrows(t *testing.T) {
	for seed := range 40 {
		r := rand.New(rand.NewSource(int64(seed)))
		h := hold(t)
		for _, pid := range r.Perm(1 + seed) {
			h.added(r.Intn(40)-20, pid+1)
			if r.Intn(4) == 0 {
				h.blocked(pid + 1)
			}
		}
		if len(h.x.Ready()) == 0 {
			continue
		}
		last := 0
		for i := range 400 {
			pid, _ := h.lot(float64(i) / 400)
			if pid < last {
				t.Fatalf("a lot of %d in 400 drew %d after %d", i, pid, last)
			}
			last = pid
		}
		able := h.m.able()
		h.drawn(0, able[0])
		h.drawn(below1, able[len(able)-1])
		h.check()
		h.whole()
	}
}

// TestLoadAndShare holds P15.5 for processes of each sort.
func TestLoadAndShare(t *testing.T) {
	h := hold(t)
	h.added(0, 9)
	h.has(9, 1)
	h.added(0, 3)
	h.has(9, 0.5)
	h.has(3, 0.5)
	h.added(-1, 5)
	h.added(1, 4)
	h.blocked(3)
	h.has(4, quotient(819.2, 819.2, 1280, 1024))
	h.has(5, quotient(1280, 819.2, 1280, 1024))
	h.has(9, quotient(1024, 819.2, 1280, 1024))
	h.kept(api.ErrArg, func() api.Errno { _, e := h.share(3); return e })
	for _, pid := range slices.Concat(nobody, []int{1, 2, 6, 8, 10}, distant) {
		for _, call := range []func(int) (float64, api.Errno){h.load, h.share} {
			if x, e := call(pid); x != 0 || e != api.ErrSrch {
				t.Errorf("process %d: %v, %d", pid, x, e)
			}
		}
	}
	if x, e := h.load(3); x != 0 || e != api.OK {
		t.Errorf("Load(3) = %v, %d", x, e)
	}
	h.must(h.wake(3), api.OK)
	h.must(h.nice(9, 19), api.OK)
	h.must(h.remove(5), api.OK)
	w, _ := share.Weight(19)
	h.has(9, quotient(w, 1024, 819.2, w))
	h.has(3, quotient(1024, 1024, 819.2, w))
	h.check()
	h.whole()
}

// TestShareOfEach holds the share of each nice value beside each other one.
func TestShareOfEach(t *testing.T) {
	for a := -20; a <= 19; a++ {
		for b := -20; b <= 19; b++ {
			h := hold(t)
			h.added(a, 2)
			h.added(b, 1)
			x, _ := share.Weight(a)
			y, _ := share.Weight(b)
			h.has(2, x/(y+x))
			h.has(1, y/(y+x))
			h.whole()
		}
	}
}

// TestReady holds that the ready processes are returned in memory that is nobody else's.
func TestReady(t *testing.T) {
	h := town(t)
	want := []int{6, 12, 3, 1, 4, 11, 9, 8}
	one, two := h.x.Ready(), h.x.Ready()
	for _, l := range [][]int{one[:cap(one)], two[len(two):cap(two)]} {
		for i := range l {
			l[i] = 77
		}
	}
	if !slices.Equal(two, want) {
		t.Errorf("what Ready() has returned became %v", two)
	}
	h.order(want...)
	h.check()
	h.turns(6)
	h.blocked(6, 12)
	h.turns(3, 1)
	h.must(h.remove(4), api.OK)
	h.added(-20, 20, 21, 22)
	if !slices.Equal(two, want) {
		t.Errorf("what Ready() has returned became %v", two)
	}
	h.check()
	alone := hold(t)
	alone.added(5, 3)
	l := alone.x.Ready()
	l[0] = 4
	_ = append(l, 5)
	alone.order(3)
	alone.added(5, 6)
	alone.order(3, 6)
	alone.blocked(3, 6)
	alone.order()
}

// TestNil holds R4: no call has returned a queue that is nil or empty.
func TestNil(t *testing.T) {
	for _, x := range []*sched.Queue{nil, {}} {
		for _, n := range slices.Concat(nobody, []int{1, 2}, distant) {
			for _, nice := range slices.Concat(nices, niceless) {
				if e := x.Add(n, nice); e != api.ErrNil {
					t.Errorf("Add(%d, %d) = %d", n, nice, e)
				}
				if e := x.Nice(n, nice); e != api.ErrNil {
					t.Errorf("Nice(%d, %d) = %d", n, nice, e)
				}
			}
			for i, e := range []api.Errno{x.Remove(n), x.Block(n), x.Wake(n)} {
				if e != api.ErrNil {
					t.Errorf("call %d of process %d = %d", i, n, e)
				}
			}
			if v, e := x.Load(n); v != 0 || e != api.ErrNil {
				t.Errorf("Load(%d) = %v, %d", n, v, e)
			}
			if v, e := x.Share(n); v != 0 || e != api.ErrNil {
				t.Errorf("Share(%d) = %v, %d", n, v, e)
			}
		}
		for _, p := range slices.Concat(parts, partless) {
			if pid, e := x.Lot(p); pid != 0 || e != api.ErrNil {
				t.Errorf("Lot(%v) = %d, %d", p, pid, e)
			}
		}
		if pid, e := x.Next(); pid != 0 || e != api.ErrNil {
			t.Errorf("Next() = %d, %d", pid, e)
		}
		if l := x.Ready(); len(l) != 0 {
			t.Errorf("Ready() = %v", l)
		}
	}
}

// worlds are queues of every sort.
func worlds() map[string]func(t *testing.T) *held {
	return map[string]func(t *testing.T) *held{
		"empty": hold,
		"town":  town,
		"one": func(t *testing.T) *held {
			h := hold(t)
			h.added(0, 1)
			return h
		},
		"one level": func(t *testing.T) *held {
			h := hold(t)
			h.added(3, 3, 1, 2)
			h.turns(3, 1, 2, 3)
			return h
		},
		"all blocked": func(t *testing.T) *held {
			h := hold(t)
			h.added(-20, 1)
			h.added(19, 2, 3)
			h.turns(1)
			h.blocked(2, 1, 3)
			return h
		},
		"all gone": func(t *testing.T) *held {
			h := hold(t)
			h.added(0, 1, 2)
			h.turns(1, 2, 1)
			h.blocked(2)
			h.must(h.remove(2), api.OK)
			h.must(h.remove(1), api.OK)
			return h
		},
		"all anew": func(t *testing.T) *held {
			h := hold(t)
			h.added(-9, 1, 2, 3)
			h.turns(1, 2)
			for pid := 1; pid <= 3; pid++ {
				h.must(h.remove(pid), api.OK)
			}
			h.added(9, 3, 2)
			h.added(1, 1)
			return h
		},
	}
}

// TestOrders makes each call in each world with each pair of numbers. A call that is refused has changed nothing; the world in which one was not is left.
func TestOrders(t *testing.T) {
	pids := slices.Concat(nobody, []int{1, 2, 3, 4, 5, 6, 7, 8, 9, 10, 11, 12, 13, 14}, []int{1 << 32, 1<<32 + 1, greatest})
	calls := []func(h *held, pid, n int) api.Errno{
		func(h *held, pid, n int) api.Errno { return h.add(pid, n) },
		func(h *held, pid, n int) api.Errno { return h.nice(pid, n) },
		func(h *held, pid, n int) api.Errno { return h.remove(pid) },
		func(h *held, pid, n int) api.Errno { return h.block(pid) },
		func(h *held, pid, n int) api.Errno { return h.wake(pid) },
	}
	for name, world := range worlds() {
		t.Run(name, func(t *testing.T) {
			for i, call := range calls {
				values := slices.Concat(nices, niceless)
				if i > 1 {
					values = values[:1] // they take none
				}
				h := world(t)
				for _, pid := range pids {
					for _, n := range values {
						before := h.sight()
						e := call(h, pid, n)
						h.check()
						h.whole()
						if e == api.OK {
							h.deep()
							h = world(t)
						} else if after := h.sight(); after != before {
							t.Fatalf("call %d of %d, %d, which was answered %d, changed%s to%s", i, pid, n, e, before, after)
						}
					}
				}
				h.deep()
			}
		})
	}
}

// TestStates makes each of some calls in every state to which they lead, with three processes of three nice values, of which two are of one level.
func TestStates(t *testing.T) {
	var calls []func(h *held)
	for pid := 0; pid <= 3; pid++ {
		calls = append(calls,
			func(h *held) { h.remove(pid) },
			func(h *held) { h.block(pid) },
			func(h *held) { h.wake(pid) })
		for _, nice := range []int{-21, -4, 3, 4} {
			calls = append(calls,
				func(h *held) { h.add(pid, nice) },
				func(h *held) { h.nice(pid, nice) })
		}
	}
	calls = append(calls, func(h *held) { h.next() })
	for _, p := range []float64{-0.5, 0, 0.4, 0.6, below1, 1} {
		calls = append(calls, func(h *held) { h.lot(p) })
	}
	replay := func(history []int) *held {
		h := hold(t)
		for _, i := range history {
			calls[i](h)
		}
		return h
	}
	known := map[string]int{newModel().text(): 1}
	states := [][]int{nil}
	for at := 0; at < len(states); at++ {
		h := replay(states[at])
		before := h.m.text()
		for i, call := range calls {
			call(h)
			h.check()
			after := h.m.text()
			if after == before {
				continue
			}
			h.whole()
			if known[after] == 0 {
				known[after] = 1
				states = append(states, append(slices.Clone(states[at]), i))
			}
			h = replay(states[at])
		}
	}
	t.Logf("%d states", len(states))
}

// walker makes random calls.
type walker struct {
	*rand.Rand
	*held
	pool []int // the numbers that processes have, if they are there
}

// pid is mostly one of the pool.
func (w walker) pid() int {
	if w.Intn(25) == 0 {
		return nobody[w.Intn(len(nobody))]
	}
	return w.pool[w.Intn(len(w.pool))]
}

// value is mostly a nice value.
func (w walker) value() int {
	if w.Intn(15) == 0 {
		return niceless[w.Intn(len(niceless))]
	}
	return w.Intn(40) - 20
}

// part is mostly one that is not refused.
func (w walker) part() float64 {
	switch w.Intn(12) {
	case 0:
		return partless[w.Intn(len(partless))]
	case 1:
		return parts[w.Intn(len(parts))]
	}
	return w.Float64()
}

// act makes a random call.
func (w walker) act() {
	pid := w.pid()
	switch call := w.Intn(40); {
	case call < 8:
		w.add(pid, w.value())
	case call < 10:
		w.remove(pid)
	case call < 14:
		w.block(pid)
	case call < 19:
		w.wake(pid)
	case call < 24:
		w.nice(pid, w.value())
	case call < 33:
		w.next()
	default:
		w.lot(w.part())
	}
}

// pools are of few and of many numbers, near to each other and far away.
func pools() [][]int {
	var many []int
	for i := range 60 {
		many = append(many, 1+i*i)
	}
	return [][]int{{1}, {1, 2}, {greatest, 1, 2}, {1, 2, 3, 4, 5}, {5, 3, 1<<32 + 3, 1<<32 + 5, 1 << 32, 1 << 31, greatest - 1}, many, distant}
}

// TestRandom holds long runs of random calls against the model, and P15.6 after each of them.
func TestRandom(t *testing.T) {
	for seed := range 70 {
		r := rand.New(rand.NewSource(int64(seed)))
		w := walker{r, hold(t), pools()[seed%7]}
		for range 1500 {
			w.act()
			w.check()
			w.whole()
		}
		w.deep()
	}
}

// turnstile counts how often each process of a level was selected.
type turnstile map[int]int

func (c turnstile) fair(t *testing.T, pids []int) {
	t.Helper()
	low, high := math.MaxInt, 0
	for _, pid := range pids {
		low, high = min(low, c[pid]), max(high, c[pid])
	}
	if high-low > 1 {
		t.Fatalf("the processes %v were selected so often: %v", pids, c)
	}
}

// TestFair holds P15.6: whatever is called beside, as long as a level's processes stay the same, each of them is selected equally often, or once more. The counts begin anew again and again.
func TestFair(t *testing.T) {
	for level := range firsts {
		for n := 1; n <= 6; n++ {
			r := rand.New(rand.NewSource(int64(level*10 + n)))
			w := walker{r, hold(t), []int{2, 4, 6, 8, 10, 12, 14}}
			var ours []int
			for _, i := range r.Perm(n) {
				ours = append(ours, 2*i+1)
				w.added(levelNices(level)[r.Intn(8)], 2*i+1)
			}
			c := turnstile{}
			for i := range 600 {
				w.beside(level, ours)
				if l := w.m.ready(); levelOf(w.m.at[l[0]].nice) == level {
					pid, e := w.x.Next()
					w.m.next()
					w.must(e, api.OK)
					if !slices.Contains(ours, pid) {
						t.Fatalf("Next() = %d; want one of %v", pid, ours)
					}
					c[pid]++
					c.fair(t, ours)
				}
				if i%97 == 0 {
					clear(c)
				}
				w.check()
			}
		}
	}
}

// beside makes a random call that leaves a level's processes as they are: others are never of that level.
func (w walker) beside(level int, ours []int) {
	pid := w.pool[w.Intn(len(w.pool))]
	value := w.value()
	for isNice(value) && levelOf(value) == level {
		value = w.value()
	}
	us := ours[w.Intn(len(ours))]
	switch w.Intn(9) {
	case 0:
		w.add(pid, value)
	case 1, 2:
		w.remove(pid)
	case 3, 4:
		w.block(pid)
	case 5:
		w.wake(pid)
	case 6:
		w.nice(pid, value)
	case 7:
		w.must(w.nice(us, levelNices(level)[w.Intn(8)]), api.OK)
	default:
		w.lot(w.part())
		w.must(w.wake(us), api.ErrArg)
		w.must(w.add(us, 0), api.ErrExist)
	}
}

// TestLoadsSum holds that loads are in 0..1, and at most 1 in all, where one process alone runs for long, and then another one.
func TestLoadsSum(t *testing.T) {
	for _, n := range []int{1, 2, 3, 10, 100} {
		h := hold(t)
		for pid := 1; pid <= n; pid++ {
			h.added(0, pid)
		}
		for run := range 80 {
			for range 5 {
				h.next()
				h.whole()
			}
			for range 12 {
				h.drawn(float64(run%n)/float64(n)+0.5/float64(n), run%n+1)
			}
			h.whole()
			h.check()
		}
		for range 60 {
			h.drawn(0, 1)
		}
		if x, _ := h.load(1); x != 1 {
			t.Errorf("Load(1) = %v", x)
		}
		h.whole()
	}
}

// TestLoadsSumExact holds the sum of all loads as long as no halving rounds: so many runs leave so many halvings of 1.
func TestLoadsSumExact(t *testing.T) {
	for seed := range 40 {
		r := rand.New(rand.NewSource(int64(seed)))
		h := hold(t)
		n := 1 + seed%10
		for pid := 1; pid <= n; pid++ {
			h.added(r.Intn(40)-20, pid)
		}
		for run := 1; run <= 52; run++ {
			h.block(1 + r.Intn(n))
			h.wake(1 + r.Intn(n))
			if len(h.m.able()) == 0 {
				h.wake(n)
			}
			if r.Intn(2) == 0 {
				h.next()
			} else {
				h.lot(r.Float64())
			}
			sum := 0.0
			for pid := 1; pid <= n; pid++ {
				x, _ := h.x.Load(pid)
				sum += x
			}
			if want := 1 - math.Ldexp(1, -run); sum != want || sum > 1 {
				t.Fatalf("the sum of all loads is %v after %d runs; want %v", sum, run, want)
			}
			h.check()
			h.whole()
		}
	}
}

// TestMany holds a queue of very many processes, which come and go in whichever order.
func TestMany(t *testing.T) {
	const n = 3000
	r := rand.New(rand.NewSource(1))
	h := hold(t)
	for i, pid := range r.Perm(n) {
		h.must(h.x.Add(pid+1, pid%40-20), api.OK)
		h.m.add(pid+1, pid%40-20)
		if i%5 == 0 {
			h.must(h.x.Block(pid+1), api.OK)
			h.m.block(pid + 1)
		}
	}
	glance := func() {
		t.Helper()
		if got, want := h.x.Ready(), h.m.ready(); !slices.Equal(got, want) {
			t.Fatalf("Ready() = %v; want %v", got, want)
		}
		for pid := 0; pid <= n+1; pid += 1 + r.Intn(300) {
			h.load(pid)
			h.share(pid)
		}
	}
	glance()
	for range 20 {
		h.next()
		h.lot(r.Float64())
	}
	glance()
	for i, pid := range r.Perm(n)[:n-50] {
		h.must(h.x.Remove(pid+1), api.OK)
		h.m.remove(pid + 1)
		if i%400 == 0 {
			glance()
		}
	}
	h.check()
	h.whole()
	h.deep()
}

// TestApart holds R4: what is called on one queue changes nothing of another one, and the same calls are answered alike.
func TestApart(t *testing.T) {
	a, b, c := town(t), town(t), hold(t)
	before := b.sight()
	a.turns(6, 6)
	a.drawn(0, 1)
	a.must(a.remove(6), api.OK)
	a.must(a.nice(3, 19), api.OK)
	a.must(a.wake(7), api.OK)
	c.added(-20, 6)
	c.turns(6)
	if after := b.sight(); after != before {
		t.Fatalf("calls on another queue changed%s to%s", before, after)
	}
	b.check()
	a.check()
	c.order(6)
	c.check()
	b.deep()
	a.deep()
	c.deep()
}
