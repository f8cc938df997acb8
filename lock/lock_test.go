package lock_test

import (
	"fmt"
	"slices"
	"testing"

	"hayward/api"
	"hayward/lock"
)

// The signatures are part of the chapter.
var (
	_ func(n int) (*lock.Lock, api.Errno)                 = lock.New
	_ func(l *lock.Lock, t int, write bool) api.Errno     = (*lock.Lock).Want
	_ func(l *lock.Lock, t int) api.Errno                 = (*lock.Lock).Leave
	_ func(l *lock.Lock, t int) (state int, no api.Errno) = (*lock.Lock).Step
	_ func(l *lock.Lock, t int) int                       = (*lock.Lock).State
	_ func(l *lock.Lock) (writer int, flags []int)        = (*lock.Lock).Cells
)

// outside are numbers of no thread of any lock, some of which are small again when they are cut off to fewer bits.
var outside = []int{least, least + 1, least + 64, -1<<32 - 1, -1 << 32, 1 - 1<<32, -1 << 31, -1 << 16, 1 - 1<<16, -256, -255, -65, -64, -63, -2, -1, 64, 65, 127, 128, 255, 256, 257, 1 << 16, 1<<16 + 1, 1 << 31, 1 << 32, 1<<32 + 1, 1 << 62, 1<<62 + 1, greatest - 63, greatest - 1, greatest}

// TestExamples are the chapter's.
func TestExamples(t *testing.T) {
	h := hold(t, 2)
	h.play("r0 s0:2 s0:3 s0:5")
	h.play("w1 s1:8 s1:8 l0 s0:0 s1:8 s1:9")
	h.play("r0 s0:1 w0?25 l0?25")
	h.cells(2, 0, 0)
	h = hold(t, 2)
	h.play("r0 l0?25")
	h.play("w1 l1?25")
	h.states(1, 7)
}

// TestNew holds P19.1 for each number of threads that may be, and for many that may not.
func TestNew(t *testing.T) {
	for _, n := range append([]int{0, 66, 1 << 8, 1<<8 + 1, 1<<16 + 64, 1<<32 + 2, 1<<32 + 64}, outside...) {
		if n == 64 {
			continue
		}
		if x, e := lock.New(n); x != nil || e != api.ErrArg {
			t.Errorf("New(%d) = %v, %d; want error %d", n, x, e, api.ErrArg)
		}
	}
	for n := 1; n <= 64; n++ {
		h := hold(t, n)
		h.cells(0, make([]int, n)...)
		h.states(make([]int, n)...)
		for i := range n {
			h.do(act{'s', i})
		}
		h.cells(0, make([]int, n)...)
		h.do(act{'r', n})
		h.do(act{'s', n})
		h.do(act{'w', n - 1})
	}
}

// scene is a script that brings thread 1 of three into a state.
type scene struct {
	state  int
	script string
	next   int // the state that a step leads to
	cell   int // the cells ahead of the step
	flag   int
	after  int // the cells behind it
	behind int
}

// scenes are each state with the writer cell 0, and with thread 1's number or another's: as many of these as come about (TestReached), and each way out.
func scenes() []scene {
	return []scene{
		{0, "", 0, 0, 0, 0, 0},
		{0, "w2 s2", 0, 3, 0, 3, 0},
		{0, "w0 s0", 0, 1, 0, 1, 0},
		{1, "r1", 2, 0, 0, 0, 0},
		{1, "r1 w2 s2", 1, 3, 0, 3, 0},
		{1, "w0 s0 r1", 1, 1, 0, 1, 0},
		{1, "w0 s0 s0 s0 s0:9 r1 s1:1", 1, 1, 0, 1, 0},
		{1, "w0 s0 s0 s0 s0:9 r1 s1:1 l0", 1, 1, 0, 1, 0},
		{1, "w0 s0 s0 s0 s0:9 r1 s1:1 l0 s0", 2, 0, 0, 0, 0},
		{2, "r1 s1", 3, 0, 0, 0, 1},
		{2, "r1 s1 w2 s2", 3, 3, 0, 3, 1},
		{2, "r1 s1 w2 s2 s2 s2 s2:9", 3, 3, 0, 3, 1},
		{2, "r1 s1 w0 s0", 3, 1, 0, 1, 1},
		{3, "r1 s1 s1", 5, 0, 1, 0, 1},
		{3, "r1 s1 s1 w2 s2", 4, 3, 1, 3, 1},
		{3, "r1 s1 s1 w0 s0", 4, 1, 1, 1, 1},
		{3, "r1 s1 w2 s2 s2 s2 s2:9 s1", 4, 3, 1, 3, 1},
		{3, "r1 s1 s1 w2 r0", 5, 0, 1, 0, 1},
		{3, "r1 s1 w0 s0 s0 s0 s0:9 s1 l0", 4, 1, 1, 1, 1},
		{3, "r1 s1 w0 s0 s0 s0 s0:9 s1 l0 s0", 5, 0, 1, 0, 1},
		{4, "r1 s1 s1 w2 s2 s1", 1, 3, 1, 3, 0},
		{4, "r1 s1 s1 w0 s0 s1", 1, 1, 1, 1, 0},
		{4, "r1 s1 w2 s2 s2 s2 s2:9 s1 s1:4 l2 s2", 1, 0, 1, 0, 0},
		{5, "r1 s1 s1 s1", 5, 0, 1, 0, 1},
		{5, "r1 s1 s1 s1 w2 s2", 5, 3, 1, 3, 1},
		{5, "r1 s1 s1 s1 w0 s0", 5, 1, 1, 1, 1},
		{6, "r1 s1 s1 s1 l1", 0, 0, 1, 0, 0},
		{6, "r1 s1 s1 s1 w2 s2 l1", 0, 3, 1, 3, 0},
		{6, "r1 s1 s1 s1 w0 s0 l1", 0, 1, 1, 1, 0},
		{7, "w1", 8, 0, 0, 2, 0},
		{7, "w1 w2 s2", 7, 3, 0, 3, 0},
		{7, "w0 s0 w1", 7, 1, 0, 1, 0},
		{7, "w0 s0 s0 s0 s0:9 w1 l0", 7, 1, 0, 1, 0},
		{7, "w0 s0 s0 s0 s0:9 w1 s1:7 l0 s0", 8, 0, 0, 2, 0},
		{8, "w1 s1", 8, 2, 0, 2, 0},
		{8, "w1 s1 s1", 8, 2, 0, 2, 0},
		{8, "w1 s1 s1 s1", 9, 2, 0, 2, 0},
		{8, "r0 s0 s0 w1 s1 s1", 8, 2, 0, 2, 0},
		{8, "r2 s2 s2 w1 s1 s1 s1 s1 s1", 8, 2, 0, 2, 0},
		{8, "r2 s2 s2 w1 s1 s1 s1 s1 s1 s2:4 s2:1", 9, 2, 0, 2, 0},
		{9, "w1 s1 s1 s1 s1", 9, 2, 0, 2, 0},
		{10, "w1 s1 s1 s1 s1 l1", 0, 2, 0, 0, 0},
		{10, "w1 s1 s1 s1 s1 l1 w0 s0:7 r2 s2:1", 0, 2, 0, 0, 0},
	}
}

// set brings a fresh lock to a scene.
func set(t *testing.T, x scene) *held {
	t.Helper()
	h := hold(t, 3)
	h.play(x.script)
	h.one(x.state, x.cell, x.flag)
	return h
}

// one demands the state of thread 1, the writer cell, and thread 1's flag, by numbers of the test itself.
func (h *held) one(state, cell, flag int) {
	h.t.Helper()
	c, flags := h.x.Cells()
	if s := h.x.State(1); s != state || c != cell || flags[1] != flag {
		h.t.Fatalf("%v: state %d, cells %d, %v; want %d, %d, flag %d", h.done, s, c, flags, state, cell, flag)
	}
}

// TestScenes makes a step in each scene: P19.3.
func TestScenes(t *testing.T) {
	for _, x := range scenes() {
		h := set(t, x)
		if s, e := h.do(act{'s', 1}); s != x.next || e != api.OK {
			t.Errorf("%q: Step(1) = %d, %d; want %d", x.script, s, e, x.next)
		}
		h.one(x.next, x.after, x.behind)
	}
}

// TestWantAndLeave calls both in each scene: P19.2.
func TestWantAndLeave(t *testing.T) {
	for _, x := range scenes() {
		for _, c := range []struct {
			what byte
			from []int
			to   []int
		}{
			{'r', []int{0}, []int{1}},
			{'w', []int{0}, []int{7}},
			{'l', []int{5, 9}, []int{6, 10}},
		} {
			h := set(t, x)
			before := seen(h.x, 3)
			want, bad := x.state, api.ErrAgain
			if i := slices.Index(c.from, x.state); i >= 0 {
				want, bad = c.to[i], api.OK
			}
			if _, e := h.do(act{c.what, 1}); e != bad {
				t.Errorf("%q: %c1 = %d; want %d", x.script, c.what, e, bad)
			}
			h.one(want, x.cell, x.flag)
			if after := seen(h.x, 3); bad != api.OK && after != before {
				t.Errorf("%q: %c1 was refused, and has changed %s into %s", x.script, c.what, before, after)
			}
		}
	}
}

// TestNobody makes each call, in each scene, with numbers of no thread: nothing changes, neither what can be seen nor what comes then.
func TestNobody(t *testing.T) {
	for _, x := range scenes() {
		h := set(t, x)
		before := seen(h.x, 3)
		for _, i := range append([]int{3, 4, 63}, outside...) {
			h.refuses(i)
		}
		if after := seen(h.x, 3); after != before {
			t.Errorf("%q: calls of no thread have changed %s into %s", x.script, before, after)
		}
		h.play("s1 s0 s2 s1 s1 s1")
	}
}

// refuses demands that there is no thread i.
func (h *held) refuses(i int) {
	h.t.Helper()
	for _, what := range "rwls" {
		if s, e := h.do(act{byte(what), i}); s != 0 || e != api.ErrArg {
			h.t.Fatalf("%d threads: %c%d = %d, %d", h.m.n, what, i, s, e)
		}
	}
	if s := h.x.State(i); s != 0 {
		h.t.Fatalf("%d threads: State(%d) = %d", h.m.n, i, s)
	}
}

// TestBounds holds which threads a lock of n has: those from 0 to n - 1, all of which can take it.
func TestBounds(t *testing.T) {
	for _, n := range []int{1, 2, 3, 32, 63, 64} {
		for _, i := range append([]int{n, n + 1, n + 63}, outside...) {
			h := hold(t, n)
			h.refuses(i)
			h.do(act{'w', n - 1})
			h.steps(n-1, n+1)
			h.refuses(i)
		}
		for _, i := range []int{0, n / 2, n - 1} {
			h := hold(t, n)
			h.do(act{'r', i})
			h.steps(i, 3)
			flags := make([]int, n)
			flags[i] = 1
			h.cells(0, flags...)
			h = hold(t, n)
			h.do(act{'w', i})
			h.steps(i, n+1)
			h.cells(i+1, make([]int, n)...)
		}
	}
}

// TestNil makes every call on a nil lock, and on one that no call has returned.
func TestNil(t *testing.T) {
	for _, x := range []*lock.Lock{nil, {}} {
		for range 2 {
			for _, i := range append([]int{0, 1, 2, 63}, outside...) {
				for _, what := range "rwls" {
					if s, e := calls(x, act{byte(what), i}); s != 0 || e != api.ErrNil {
						t.Errorf("%c%d = %d, %d; want error %d", what, i, s, e, api.ErrNil)
					}
				}
				if s := x.State(i); s != 0 {
					t.Errorf("State(%d) = %d", i, s)
				}
			}
			if c, flags := x.Cells(); c != 0 || len(flags) != 0 {
				t.Errorf("Cells() = %d, %v", c, flags)
			}
		}
	}
}

// TestCells holds what each call changes in the cells, with a script whose steps are all told.
func TestCells(t *testing.T) {
	h := hold(t, 3)
	for _, x := range []struct {
		call  string
		cell  int
		flags []int
	}{
		{"r0", 0, []int{0, 0, 0}}, {"s0:2", 0, []int{0, 0, 0}}, {"s0:3", 0, []int{1, 0, 0}}, {"s0:5", 0, []int{1, 0, 0}}, {"s0:5", 0, []int{1, 0, 0}},
		{"r2", 0, []int{1, 0, 0}}, {"s2:2", 0, []int{1, 0, 0}}, {"s2:3", 0, []int{1, 0, 1}},
		{"w1", 0, []int{1, 0, 1}}, {"s1:8", 2, []int{1, 0, 1}}, {"s1:8", 2, []int{1, 0, 1}},
		{"s2:4", 2, []int{1, 0, 1}}, {"s2:1", 2, []int{1, 0, 0}}, {"s2:1", 2, []int{1, 0, 0}},
		{"l0", 2, []int{1, 0, 0}}, {"s0:0", 2, []int{0, 0, 0}}, {"s0:0", 2, []int{0, 0, 0}},
		{"s1:8", 2, []int{0, 0, 0}}, {"s1:8", 2, []int{0, 0, 0}}, {"s1:9", 2, []int{0, 0, 0}}, {"s1:9", 2, []int{0, 0, 0}},
		{"w0", 2, []int{0, 0, 0}}, {"s0:7", 2, []int{0, 0, 0}},
		{"l1", 2, []int{0, 0, 0}}, {"s0:7", 2, []int{0, 0, 0}}, {"s1:0", 0, []int{0, 0, 0}}, {"s1:0", 0, []int{0, 0, 0}},
		{"s0:8", 1, []int{0, 0, 0}}, {"s2:1", 1, []int{0, 0, 0}}, {"s0:8", 1, []int{0, 0, 0}}, {"s0:8", 1, []int{0, 0, 0}}, {"s0:9", 1, []int{0, 0, 0}},
		{"l0", 1, []int{0, 0, 0}}, {"s2:1", 1, []int{0, 0, 0}}, {"s0:0", 0, []int{0, 0, 0}},
		{"s2:2", 0, []int{0, 0, 0}}, {"s2:3", 0, []int{0, 0, 1}}, {"s2:5", 0, []int{0, 0, 1}}, {"l2", 0, []int{0, 0, 1}}, {"s2:0", 0, []int{0, 0, 0}},
	} {
		h.play(x.call)
		h.cells(x.cell, x.flags...)
	}
}

// TestList writes into the lists that Cells returned, and into the room behind them: the lock has its flags to itself, and a list stays as it was.
func TestList(t *testing.T) {
	for _, n := range []int{1, 2, 5, 63, 64} {
		h := hold(t, n)
		_, fresh := h.x.Cells()
		h.do(act{'r', n - 1})
		h.steps(n-1, 3)
		_, old := h.x.Cells()
		_, list := h.x.Cells()
		for i := range list[:cap(list)] {
			list[:cap(list)][i] = 1 - old[:cap(old)][i]
		}
		h.check()
		h.do(act{'l', n - 1})
		h.do(act{'s', n - 1})
		flags := make([]int, n)
		h.cells(0, flags...)
		if !slices.Equal(fresh, flags) {
			t.Errorf("%d threads: a list of Cells has become %v", n, fresh)
		}
		if flags[n-1] = 1; !slices.Equal(old, flags) {
			t.Errorf("%d threads: a list of Cells has become %v", n, old)
		}
		h.do(act{'w', 0})
		h.steps(0, n+1)
	}
}

// TestApart holds that locks have nothing in common.
func TestApart(t *testing.T) {
	a, b := hold(t, 2), hold(t, 2)
	a.play("w0 s0 s0 s0:9")
	b.check()
	b.play("w0 s0 s0 r1 s1:1")
	a.play("l0 s0:0 r0 s0 s0 s0:5")
	b.play("s0:9")
	a.check()
	b.cells(1, 0, 0)
	a.cells(0, 1, 0)
}

// TestReader has a reader find the writer cell taken behind its own flag, and back off, again and again.
func TestReader(t *testing.T) {
	h := hold(t, 2)
	for range 5 {
		h.play("r0 s0:2 w1 s1:8 s1:8 s0:3")
		h.cells(2, 1, 0)
		h.play("s0:4 s1:9")
		h.cells(2, 1, 0)
		h.play("s0:1 s0:1 s0:1")
		h.cells(2, 0, 0)
		h.play("l1 s0:1 s1:0 s0:2 s0:3 w1 s1:8 s1:8 s1:8")
		h.cells(2, 1, 0)
		h.play("s0:4 s1:8 s0:1 s1:8 s1:9 l1 s1:0 s0:2 s0:3 s0:5 l0 s0:0")
		h.cells(0, 0, 0)
	}
}

// TestLate has a reader check the cell when the writer that passed its flag has gone: it reads; and it backs off from a writer that is new, or has the cell a second time.
func TestLate(t *testing.T) {
	h := hold(t, 3)
	h.play("r1 s1 w0 s0 s0 s0 s0:9 s1:3 l0 s0:0 s1:5")
	h = hold(t, 3)
	h.play("r1 s1 w0 s0 s0 s0 s0:9 s1:3 l0 s0:0 w2 s2:8 s1:4 s1:1 s2:8 s2:8 s2:9")
	h = hold(t, 3)
	h.play("r1 s1 w0 s0 s0 s0 s0:9 s1:3 l0 s0:0 w0 s0:8 s1:4 s0:8 s0:8 s0:8 s1:1 s0:8 s0:9")
	h = hold(t, 3)
	h.play("r1 s1 s1 w0 s0 s0 s0:8 s1:4 s0:8 w2 s2:7 s1:1 s0:8 s0:9 s1:1 l0 s0:0 s1:2 s2:8 s1:3 s2:8 s2:8 s1:4 s2:8 s1:1 s2:8 s2:9")
}

// TestComeAndGo has a thread wait while others come and go: a writer for readers that are in already, readers and writers for a writer, whoever that is by then.
func TestComeAndGo(t *testing.T) {
	h := hold(t, 3)
	h.play("r0 s0 s0 s0:5 r1 s1 s1 s1:5 w2 s2:8 s2:8 s2:8 l0 s0:0 r0 s0:1 s2:8 s2:8 s0:1 s2:8 l1 s2:8 s1:0 s2:8 r1 s1:1 s2:9")
	h.play("s0:1 s1:1 l2 s0:1 s1:1 s2:0 s0:2 s1:2 s0:3 s0:5 s1:3 s1:5")
	h.cells(0, 1, 1, 0)
	h = hold(t, 3)
	h.play("r0 w1 s1 s1 s1 s1:9")
	for range 20 {
		h.play("s0:1 l1 s1:0 w2 s2:8 s0:1 s2:8 s2:8 s2:9 s0:1 l2 s0:1 s2:0 w1 s1:8 s0:1 s1 s1 s1:9")
	}
	h.play("l1 s1:0 s0:2 s0:3 s0:5")
	h = hold(t, 3)
	h.play("w0 w1 s1 s1 s1 s1:9")
	for range 20 {
		h.play("s0:7 l1 s0:7 s1:0 w2 s2:8 s0:7 s2:8 s2:8 s2:9 s0:7 l2 s0:7 s2:0 w1 s1:8 s0:7 s1 s1 s1:9")
	}
	h.play("l1 s1:0 s0:8 s0:8 s0:8 s0:9")
	h = hold(t, 3)
	h.play("r0 s0 s0 s0:5 w2")
	for range 20 {
		h.play("r1 s1 s1 s1:5 l0 s0:0 r0 s0 s0 s0:5 l1 s1:0")
	}
	h.play("s2:8 r1 s1:1 s2:8 l0 s1:1 s2:8 s0:0 s2:8 s2:8 s2:9 s1:1")
}

// TestOne holds a lock of one thread, which nobody disturbs.
func TestOne(t *testing.T) {
	h := hold(t, 1)
	for range 3 {
		h.play("s0:0 l0?25 r0 r0?25 w0?25 l0?25 s0:2 s0:3 s0:5 s0:5 l0 l0?25 s0:0 s0:0")
		h.play("s0:0 l0?25 w0 w0?25 r0?25 l0?25 s0:8 l0?25 s0:9 s0:9 w0?25 l0 l0?25 r0?25 s0:0 s0:0")
		h.cells(0, 0)
	}
	h.play("r1?2 w-1?2 l1?2 s1?2 s-1?2")
}

// TestMany lets 64 threads read at once, and then write one after the other.
func TestMany(t *testing.T) {
	h := hold(t, 64)
	ones := slices.Repeat([]int{1}, 64)
	for i := range 64 {
		h.do(act{'r', i})
		h.steps(i, 3)
	}
	h.cells(0, ones...)
	for i := range 64 {
		h.do(act{'l', i})
	}
	h.cells(0, ones...)
	for i := range 64 {
		h.do(act{'s', i})
	}
	h.cells(0, make([]int, 64)...)
	for i := range 64 {
		h.do(act{'w', i})
	}
	for i := 63; i >= 0; i-- {
		h.steps(i, 65)
		h.cells(i+1, make([]int, 64)...)
		for j := range 64 {
			h.do(act{'s', j})
		}
		h.do(act{'l', i})
		h.do(act{'s', i})
	}
	h.cells(0, make([]int, 64)...)
}

// among are the places of n flags that hold a writer up: none, the first, the last, one in the middle, some, and all.
func among(n int) [][]int {
	out := [][]int{nil, {0}, {n - 1}, {n / 2}, {0, n - 1}, {n / 3, n / 2}}
	var all, odd []int
	for i := range n {
		if all = append(all, i); i%2 == 1 {
			odd = append(odd, i)
		}
	}
	out = append(out, all, odd)
	for i := range out {
		out[i] = slices.Compact(out[i])
	}
	return out
}

// TestFlags has a writer check flags of which some are 1, and become 0 while it waits, in ascending and in descending order.
func TestFlags(t *testing.T) {
	for _, n := range []int{1, 2, 3, 8, 63, 64} {
		for _, readers := range among(n) {
			for _, w := range []int{0, n / 2, n - 1} {
				list := slices.DeleteFunc(slices.Clone(readers), func(i int) bool { return i == w })
				waits(t, n, w, list)
				slices.Reverse(list)
				waits(t, n, w, list)
			}
		}
	}
}

// waits lets readers read, w want to write, and the readers leave in their order; w makes many steps ahead of each, but is never beyond the first that reads.
func waits(t *testing.T, n, w int, readers []int) {
	t.Helper()
	h := hold(t, n)
	for _, i := range readers {
		h.do(act{'r', i})
		h.steps(i, 3)
	}
	h.do(act{'w', w})
	passed := -1
	for left := slices.Clone(readers); len(left) > 0; left = left[1:] {
		for range n + 3 {
			h.do(act{'s', w})
		}
		if passed = slices.Min(left); h.x.State(w) != 8 {
			t.Fatalf("%d threads, readers %v: %d is in state %d", n, left, w, h.x.State(w))
		}
		h.do(act{'l', left[0]})
		h.do(act{'s', w})
		h.do(act{'s', left[0]})
	}
	want := n - passed
	if passed < 0 {
		want = n + 1
	}
	if got := h.steps(w, want); got != want {
		t.Fatalf("%d threads, readers %v: %d writes after %d more steps; want %d", n, readers, w, got, want)
	}
}

// TestBehind holds that a writer goes from flag to flag: one that it has passed holds it up no more, and one that is ahead of it does, however late it becomes 1.
func TestBehind(t *testing.T) {
	for _, n := range []int{3, 5, 64} {
		for passed := range n + 1 {
			behind(t, n, passed)
		}
	}
}

// behind lets n - 1 threads raise their flags when the writer 0 has passed so many.
func behind(t *testing.T, n, passed int) {
	t.Helper()
	h := hold(t, n)
	for i := 1; i < n; i++ {
		h.do(act{'r', i})
		h.do(act{'s', i})
	}
	h.do(act{'w', 0})
	for range 1 + passed {
		h.do(act{'s', 0})
	}
	for i := 1; i < n; i++ {
		h.do(act{'s', i})
	}
	for range n {
		h.do(act{'s', 0})
	}
	at := max(passed, 1) // the writer's own flag is 0 all the time
	if at == n {
		h.states(9)
	}
	for i := at; i < n; i++ {
		h.play(fmt.Sprintf("s0:8 s%d:4 s0:8 s%d:1", i, i))
		h.states(8)
		h.do(act{'s', 0})
	}
	h.states(9)
}
