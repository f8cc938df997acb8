package mem_test

import (
	"fmt"
	"math"
	"slices"
	"testing"

	"hayward/api"
	"hayward/mem"
)

// The signatures are part of the chapter.
var (
	_ func(cells int, threads ...[]api.Instr) (*mem.Machine, api.Errno) = mem.New
	_ func(m *mem.Machine, pick int) int                                = (*mem.Machine).Step
	_ func(m *mem.Machine, picks ...int) int                            = (*mem.Machine).Run
	_ func(m *mem.Machine, i int) int64                                 = (*mem.Machine).Cell
	_ func(m *mem.Machine, t, i int) int64                              = (*mem.Machine).Reg
	_ func(m *mem.Machine, t int) int                                   = (*mem.Machine).At
	_ func(m *mem.Machine) []int                                        = (*mem.Machine).Live
)

// picks are numbers of every size, and such that are small again when they are cut off to fewer bits.
var picks = []int{least, least + 1, least + 2, -1<<32 - 1, -1 << 32, 1 - 1<<32, -1 << 16, -65, -64, -9, -8, -7, -6, -5, -4, -3, -2, -1, 0, 1, 2, 3, 4, 5, 6, 7, 8, 9, 63, 64, 65, 1 << 16, 1 << 32, 1<<32 + 1, 1<<62 + 3, greatest - 1, greatest}

// outside are numbers that name no register, and on a machine with at most 8 cells no cell.
var outside = []int{least, least + 1, least + 7, -1<<32 - 1, -1 << 32, 1 - 1<<32, 3 - 1<<32, -1 << 16, 1 - 1<<16, -256, -255, -9, -8, -7, -2, -1, 8, 9, 15, 16, 63, 64, 128, 255, 256, 257, 1 << 16, 1<<16 + 1, 1 << 31, 1 << 32, 1<<32 + 1, 1<<32 + 3, 1 << 62, greatest - 7, greatest - 1, greatest}

// set, load, store, cas, add and jump are the six instructions.
func set(v int64, to int) api.Instr     { return api.Instr{Op: api.ISet, A: v, To: to} }
func load(cell, to int) api.Instr       { return api.Instr{Op: api.ILoad, Cell: cell, To: to} }
func store(cell int, a int64) api.Instr { return api.Instr{Op: api.IStore, Cell: cell, A: a} }
func add(cell int, a int64, to int) api.Instr {
	return api.Instr{Op: api.IAdd, Cell: cell, A: a, To: to}
}
func jump(a, b int64, to int) api.Instr { return api.Instr{Op: api.IJump, A: a, B: b, To: to} }
func cas(cell int, a, b int64, to int) api.Instr {
	return api.Instr{Op: api.ICas, Cell: cell, A: a, B: b, To: to}
}

// program is its instructions.
func program(l ...api.Instr) []api.Instr { return l }

// sets are n instructions that set register 0, so that a thread makes n steps.
func sets(n int) []api.Instr {
	var out []api.Instr
	for i := range n {
		out = append(out, set(int64(i)+1, 0))
	}
	return out
}

// times is a list of n times the same pick.
func times(n, pick int) []int {
	return slices.Repeat([]int{pick}, n)
}

// TestExamples are the chapter's, and what it says of them.
func TestExamples(t *testing.T) {
	p := program(set(5, 1), add(0, 1, 2))
	h := hold(t, 1, p, p)
	h.live(0, 1)
	h.runs(4, 0, 1, 1, 0)
	h.cell(0, 10)
	h.reg(0, 2, 5)
	h.reg(1, 2, 0)
	h.reg(0, 1, 5)
	h.at(0, 2)
	h.at(1, 2)
	h.steps(0, -1)
	h.live()
	if x, e := mem.New(0); x != nil || e != api.ErrArg {
		t.Errorf("New(0) = %v, %d", x, e)
	}
}

// TestNew holds P18.1 for numbers of cells and of threads.
func TestNew(t *testing.T) {
	for _, cells := range append([]int{0, 65537, 65538, 1 << 17, 1<<32 + 5}, outside...) {
		if 1 <= cells && cells <= 65536 {
			continue
		}
		for _, n := range []int{0, 1, 64, 65} {
			if x, e := mem.New(cells, slices.Repeat([][]api.Instr{sets(1)}, n)...); x != nil || e != api.ErrArg {
				t.Errorf("New(%d, %d threads) = %v, %d; want error %d", cells, n, x, e, api.ErrArg)
			}
		}
	}
	for _, cells := range []int{1, 2, 255, 256, 257, 65535, 65536} {
		for _, n := range []int{0, 1, 2, 63, 64} {
			h := hold(t, cells, slices.Repeat([][]api.Instr{sets(2)}, n)...)
			for i := range cells {
				h.cell(i, 0)
			}
			h.cell(cells, 0)
			h.cell(-1, 0)
		}
		for _, n := range []int{65, 66, 128, 256, 320, 1 << 16, 1<<16 + 1} {
			if x, e := mem.New(cells, make([][]api.Instr, n)...); x != nil || e != api.ErrArg {
				t.Errorf("New(%d, %d threads) = %v, %d; want error %d", cells, n, x, e, api.ErrArg)
			}
		}
	}
}

// TestStart holds where threads begin, and that those without instructions have ended from the start.
func TestStart(t *testing.T) {
	h := hold(t, 3)
	h.live()
	h.steps(0, -1)
	h.steps(least, -1)
	h.runs(0, 0, 1, 2)
	h = hold(t, 3, nil)
	h.live()
	h.at(0, 0)
	h.reg(0, 0, 0)
	h.steps(0, -1)
	h.at(0, 0)
	h = hold(t, 1, nil, sets(1), []api.Instr{}, sets(2), make([]api.Instr, 0, 9), nil)
	h.live(1, 3)
	for i := range 6 {
		h.at(i, 0)
		for r := range 8 {
			h.reg(i, r, 0)
		}
	}
	h.steps(1, 3)
	h.steps(2, 1)
	h.live(3)
	h.steps(7, 3)
	h.live()
	h.steps(0, -1)
	h.at(2, 0)
	h.at(1, 1)
	h.at(3, 2)
}

// TestLists holds that a machine has programs of its own: what is done to the lists afterwards is not to be seen, and they are not changed.
func TestLists(t *testing.T) {
	p := append(make([]api.Instr, 0, 9), set(5, 1), add(0, 1, 2), store(1, 2))
	q := program(load(0, 3), add(0, 3, 4))
	room := p[:9]
	lists := append(make([][]api.Instr, 0, 5), p, q, p)
	h := hold(t, 2, lists...)
	if !slices.Equal(p, program(set(5, 1), add(0, 1, 2), store(1, 2))) || !slices.Equal(q, program(load(0, 3), add(0, 3, 4))) {
		t.Fatal("New has changed the lists", p, q)
	}
	for i := range room {
		room[i] = set(77, 7)
	}
	clear(q)
	lists[0], lists[2] = nil, q
	h.check()
	h.runs(2, 0, 0)
	copy(q, program(set(9, 3), set(9, 4)))
	h.runs(6, 1, 1, 0, 0, 0, 0)
	h.cell(0, 15)
	h.cell(1, 10)
	h.reg(0, 2, 0)
	h.reg(1, 3, 5)
	h.reg(1, 4, 5)
	h.reg(2, 2, 10)
	h.live()
	if !slices.Equal(q, program(set(9, 3), set(9, 4))) || p[0] != set(77, 7) {
		t.Fatal("steps have changed the lists", p, q)
	}
	l := []int{2, 1, 0}
	h = hold(t, 1, sets(1), sets(1), sets(1))
	h.runs(3, l...)
	if !slices.Equal(l, []int{2, 1, 0}) {
		t.Error("Run has changed the picks", l)
	}
}

// TestSame lets all threads have one list: each has its own place in it, and registers of its own.
func TestSame(t *testing.T) {
	p := program(set(3, 0), add(0, 0, 1), set(4, 2))
	h := hold(t, 1, p, p, p)
	h.runs(4, 0, 0, 2, 2)
	h.at(0, 2)
	h.at(1, 0)
	h.at(2, 2)
	h.reg(0, 1, 0)
	h.reg(1, 0, 0)
	h.reg(2, 1, 3)
	h.cell(0, 6)
}

// TestApart holds that machines have nothing in common.
func TestApart(t *testing.T) {
	p := program(set(3, 0), add(0, 0, 1))
	a, b := hold(t, 1, p, p), hold(t, 1, p, p)
	a.runs(2, 0, 0)
	b.check()
	b.runs(2, 1, 1)
	a.check()
	a.live(1)
	b.live(0)
}

// TestLive holds Live as threads end one after the other, and that it is new memory each time.
func TestLive(t *testing.T) {
	h := hold(t, 1, sets(2), sets(1), sets(3), sets(1), sets(2))
	h.live(0, 1, 2, 3, 4)
	l := h.x.Live()
	room := l[:cap(l)]
	for i := range room {
		room[i] = 1
	}
	h.live(0, 1, 2, 3, 4)
	old := h.x.Live()
	h.steps(3, 3)
	h.live(0, 1, 2, 4)
	h.steps(3, 4)
	h.live(0, 1, 2, 4)
	h.steps(3, 4)
	h.live(0, 1, 2)
	h.steps(0, 0)
	h.steps(0, 0)
	h.live(1, 2)
	h.steps(1, 2)
	h.steps(0, 1)
	h.live(2)
	h.steps(0, 2)
	h.live(2)
	h.steps(0, 2)
	h.live()
	if !slices.Equal(old, []int{0, 1, 2, 3, 4}) {
		t.Error("a list of Live has changed:", old)
	}
}

// TestPick holds which thread each pick selects, as threads end.
func TestPick(t *testing.T) {
	for _, pick := range picks {
		for n := 1; n <= 9; n++ {
			h := hold(t, 1, slices.Repeat([][]api.Instr{sets(2)}, n)...)
			at := pick
			if pick < 0 {
				at = -(pick + 1)
			}
			h.steps(pick, at%n)
			h.steps(pick, at%n)
			for left := n - 1; left > 0; left-- {
				h.steps(pick, h.x.Live()[at%left])
				h.step(pick)
			}
			h.live()
			h.steps(pick, -1)
		}
	}
	h := hold(t, 1, sets(9), sets(9), sets(9))
	for _, x := range []struct{ pick, who int }{{0, 0}, {1, 1}, {2, 2}, {3, 0}, {-1, 0}, {-2, 1}, {-3, 2}, {-4, 0}, {greatest, 1}, {least, 1}, {least + 1, 0}} {
		h.steps(x.pick, x.who)
	}
}

// TestPickOfMany holds it for 64 threads, of which some have ended.
func TestPickOfMany(t *testing.T) {
	var l [][]api.Instr
	for i := range 64 {
		l = append(l, sets(i%3))
	}
	for _, pick := range picks {
		h := hold(t, 2, l...)
		for h.step(pick) >= 0 {
		}
		h.live()
		h.steps(pick, -1)
	}
}

// TestLeft holds that with one thread left each pick selects it, and with none no pick does anything.
func TestLeft(t *testing.T) {
	h := hold(t, 1, sets(1), sets(len(picks)+1), nil)
	h.steps(0, 0)
	for _, pick := range picks {
		h.steps(pick, 1)
	}
	h.live(1)
	h.steps(5, 1)
	before := seen(h.x, 1, 3)
	for _, pick := range picks {
		h.steps(pick, -1)
		h.runs(0, pick, pick)
	}
	if got := seen(h.x, 1, 3); got != before {
		t.Errorf("steps of no thread: %s; want %s", got, before)
	}
}

// TestRun holds how many steps are made, with fewer picks than are left, with as many, and with more.
func TestRun(t *testing.T) {
	h := hold(t, 1, sets(3), sets(2))
	h.runs(0)
	if got := h.x.Run([]int{}...); got != 0 {
		t.Errorf("Run of an empty list = %d", got)
	}
	h.live(0, 1)
	h.runs(2, 1, 0)
	h.runs(3, times(3, 0)...)
	h.live()
	h.runs(0)
	h.runs(0, 1, 2, 3)
	h = hold(t, 1, sets(3), sets(2))
	h.runs(5, times(6, 1)...)
	h = hold(t, 1, sets(3), sets(2))
	h.runs(5, times(1000, least)...)
	h = hold(t, 1, sets(3), sets(2))
	h.runs(5, picks...)
	h = hold(t, 1, program(jump(0, 0, 0)))
	h.runs(100000, make([]int, 100000)...)
	h.live(0)
}

// TestPieces runs a list of picks in one piece, in two at each place, and step by step: all the same.
func TestPieces(t *testing.T) {
	p := program(set(5, 1), add(0, 1, 2), load(1, 3), cas(1, 3, 1, 4), jump(4, 0, 2), store(2, 2))
	lists := [][]api.Instr{p, sets(3), p, program(load(2, 0), jump(0, 0, 0))}
	for _, list := range [][]int{picks, slices.Concat(picks, picks), {3, 1, 2, 0, 3, 1, 2, 0, 7, 7, 7, 1, 1}, times(50, 0), times(50, 1)} {
		whole := hold(t, 3, lists...)
		n := whole.run(list...)
		want := seen(whole.x, 3, 4)
		for at := range len(list) + 1 {
			h := hold(t, 3, lists...)
			first := h.run(list[:at]...)
			if sum, got := first+h.run(list[at:]...), seen(h.x, 3, 4); sum != n || got != want {
				t.Fatalf("%v in two pieces at %d: %d steps, %s; want %d, %s", list, at, sum, got, n, want)
			}
		}
		h, sum := hold(t, 3, lists...), 0
		for _, pick := range list {
			if h.step(pick) >= 0 {
				sum++
			}
		}
		if got := seen(h.x, 3, 4); sum != n || got != want {
			t.Fatalf("%v step by step: %d steps, %s; want %d, %s", list, sum, got, n, want)
		}
	}
}

// TestCalls holds P18.3 with arguments at, below and above their bounds.
func TestCalls(t *testing.T) {
	var p []api.Instr
	for r := range 8 {
		p = append(p, set(int64(100+r), r))
	}
	for c := range 5 {
		p = append(p, store(c, int64(c)))
	}
	h := hold(t, 5, p, p)
	h.runs(26, times(26, 0)...)
	for c := range 5 {
		h.cell(c, int64(100+c))
	}
	for _, c := range append([]int{-1, 5, 6, 7}, outside...) {
		h.cell(c, 0)
	}
	for r := range 8 {
		h.reg(0, r, int64(100+r))
		h.reg(1, r, int64(100+r))
	}
	for _, i := range outside {
		h.reg(0, i, 0)
		h.reg(1, i, 0)
		h.reg(i, 0, 0)
		h.reg(i, 7, 0)
		h.reg(i, i, 0)
		h.at(i, 0)
	}
	h.at(0, 13)
	h.at(1, 13)
	h.at(2, 0)
	h.reg(2, 0, 0)
	h.reg(2, 7, 0)
	h.check()
	h = hold(t, 65536, program(set(7, 0), store(65535, 0), store(0, 0)))
	h.runs(3, 0, 0, 0)
	h.cell(65535, 7)
	h.cell(65536, 0)
	h.cell(0, 7)
	h.cell(-1, 0)
}

// TestCallsOfMany holds At and Reg at the bounds of 64 threads, each of which has other values.
func TestCallsOfMany(t *testing.T) {
	var l [][]api.Instr
	for i := range 64 {
		l = append(l, append(sets(i), set(int64(1000+i), i%8), jump(0, least, 0)))
	}
	h := hold(t, 1, l...)
	for i := 63; i >= 0; i-- {
		h.run(times(i+1, i)...)
	}
	for i := range 64 {
		h.at(i, i+1)
		h.reg(i, i%8, int64(1000+i))
	}
	h.at(64, 0)
	h.reg(64, 0, 0)
	h.at(-1, 0)
	h.reg(-1, 0, 0)
}

// TestNil makes every call on a nil machine, and on one that no call has returned.
func TestNil(t *testing.T) {
	for _, x := range []*mem.Machine{nil, {}} {
		for _, i := range append(slices.Clone(picks), outside...) {
			if got := x.Step(i); got != -1 {
				t.Errorf("Step(%d) = %d", i, got)
			}
			if got := x.Run(i, i); got != 0 {
				t.Errorf("Run(%d, %d) = %d", i, i, got)
			}
			if c, r, s, at := x.Cell(i), x.Reg(i, i), x.Reg(0, i), x.At(i); c != 0 || r != 0 || s != 0 || at != 0 {
				t.Errorf("Cell, Reg, At of %d = %d, %d, %d, %d", i, c, r, s, at)
			}
		}
		if got := x.Run(); got != 0 {
			t.Errorf("Run() = %d", got)
		}
		if got := x.Run(picks...); got != 0 {
			t.Errorf("Run(picks) = %d", got)
		}
		if got := x.Live(); len(got) != 0 {
			t.Errorf("Live() = %v", got)
		}
	}
}

// start are instructions that give each register r the value 10 + r, and cell c of three the value 20 + c.
func start() []api.Instr {
	var out []api.Instr
	for c := range 3 {
		out = append(out, set(int64(20+c), 0), store(c, 0))
	}
	for r := range 8 {
		out = append(out, set(int64(10+r), r))
	}
	return out
}

// before are instructions before those that a test is about; after is one more that follows, by which it can be seen whether the thread goes on.
var (
	before = len(start())
	after  = set(99, 5)
)

// held3 is a machine of three cells with a thread that stands at an instruction, after start, and one that stands at its own first.
func held3(t *testing.T, in ...api.Instr) *held {
	t.Helper()
	h := hold(t, 3, slices.Concat(start(), in, program(after)), sets(2))
	h.run(times(before, 0)...)
	h.at(0, before)
	return h
}

// ends demands that a thread ends by an instruction, and that nothing else happens.
func ends(t *testing.T, in api.Instr) {
	t.Helper()
	h := held3(t, in)
	h.steps(0, 0)
	h.at(0, -1)
	h.live(1)
	for c := range 3 {
		h.cell(c, int64(20+c))
	}
	for r := range 8 {
		h.reg(0, r, int64(10+r))
		h.reg(1, r, 0)
	}
	h.at(1, 0)
	h.steps(0, 1)
	h.at(0, -1)
}

// goes demands that a thread goes on after an instruction.
func goes(t *testing.T, in api.Instr) *held {
	t.Helper()
	h := held3(t, in)
	h.steps(0, 0)
	h.at(0, before+1)
	h.live(0, 1)
	return h
}

// TestOps holds that each other Op ends the thread, whatever else is there.
func TestOps(t *testing.T) {
	for _, op := range append([]int{0, 7, 1 - 1<<32, 1<<32 + 6, 1<<16 + 5, 257}, outside...) {
		ends(t, api.Instr{Op: op})
		ends(t, api.Instr{Op: op, Cell: 1, A: 2, B: 3, To: 4})
		ends(t, api.Instr{Op: op, A: 0, B: 10, To: before - 1})
	}
}

// TestSet holds ISet for each register, each value, and strange numbers in the operands that it does not use.
func TestSet(t *testing.T) {
	for to := range 8 {
		for _, v := range append(slices.Clone(outside), picks...) {
			h := goes(t, set(int64(v), to))
			for r := range 8 {
				want := int64(10 + r)
				if r == to {
					want = int64(v)
				}
				h.reg(0, r, want)
				h.reg(1, r, 0)
			}
		}
		for _, x := range outside {
			h := goes(t, api.Instr{Op: api.ISet, Cell: x, A: 7, B: int64(x), To: to})
			h.reg(0, to, 7)
		}
	}
	for _, to := range outside {
		ends(t, set(1, to))
	}
}

// TestLoad holds ILoad for each cell and register.
func TestLoad(t *testing.T) {
	for to := range 8 {
		for c := range 3 {
			h := goes(t, load(c, to))
			h.reg(0, to, int64(20+c))
			h.cell(c, int64(20+c))
		}
		for _, x := range outside {
			h := goes(t, api.Instr{Op: api.ILoad, Cell: 2, A: int64(x), B: int64(x), To: to})
			h.reg(0, to, 22)
			ends(t, load(x, to))
		}
		ends(t, load(3, to))
		ends(t, load(-1, to))
	}
	for _, to := range outside {
		ends(t, load(0, to))
		ends(t, load(2, to))
		ends(t, load(3, to))
	}
}

// TestStore holds IStore for each cell and register.
func TestStore(t *testing.T) {
	for a := range 8 {
		for c := range 3 {
			h := goes(t, store(c, int64(a)))
			h.cell(c, int64(10+a))
			h.cell((c+1)%3, int64(20+(c+1)%3))
			h.cell((c+2)%3, int64(20+(c+2)%3))
			h.reg(0, a, int64(10+a))
		}
		for _, x := range outside {
			h := goes(t, api.Instr{Op: api.IStore, Cell: 2, A: int64(a), B: int64(x), To: x})
			h.cell(2, int64(10+a))
			ends(t, store(x, int64(a)))
		}
		ends(t, store(3, int64(a)))
		ends(t, store(-1, int64(a)))
	}
	for _, a := range outside {
		ends(t, store(0, int64(a)))
		ends(t, store(2, int64(a)))
		ends(t, store(3, int64(a)))
	}
}

// TestCas holds ICas for every three registers, where it takes and where it does not.
func TestCas(t *testing.T) {
	for i := range int64(8 * 8 * 8) {
		a, b, to := i/64, i/8%8, int(i%8)
		h := goes(t, cas(1, a, b, to))
		h.reg(0, to, 0)
		h.cell(1, 21)
		h = held3(t, set(21, int(a)), cas(1, a, b, to))
		h.runs(2, 0, 0)
		want := 10 + b
		if a == b {
			want = 21
		}
		h.cell(0, 20)
		h.cell(1, want)
		h.cell(2, 22)
		h.reg(0, to, 1)
		h.at(0, before+2)
	}
	for c := range 3 {
		h := held3(t, set(int64(20+c), 4), cas(c, 4, 6, 2))
		h.runs(2, 0, 0)
		h.cell(c, 16)
		h.reg(0, 2, 1)
	}
	for _, v := range []int64{least, -1, 0, 1, 1 << 32, greatest} {
		p := program(set(v, 1), store(0, 1), set(v^1, 2), cas(0, 2, 3, 4), set(v^least, 2), cas(0, 2, 3, 5), set(v^1<<32, 2), cas(0, 2, 3, 6), cas(0, 1, 2, 7))
		h := hold(t, 1, p)
		h.runs(9, times(9, 0)...)
		h.reg(0, 7, 1)
		h.cell(0, v^1<<32)
	}
}

// TestCasWrong holds what ends a thread at ICas, whether it would take or not.
func TestCasWrong(t *testing.T) {
	for _, x := range outside {
		for _, l := range []api.Instr{
			cas(x, 1, 2, 3), cas(1, int64(x), 2, 3), cas(1, 1, int64(x), 3), cas(1, 1, 2, x),
			cas(x, int64(x), 2, 3), cas(1, int64(x), int64(x), 3), cas(1, 1, int64(x), x), cas(x, int64(x), int64(x), x),
		} {
			ends(t, l)
		}
	}
	ends(t, cas(3, 1, 2, 3))
	for _, wrong := range []api.Instr{cas(1, 1, 8, 3), cas(1, 1, -1, 3), cas(1, 1, 2, 8), cas(1, 1, 2, -1)} { // these would take
		h := held3(t, set(21, 1), wrong)
		h.runs(2, 0, 0)
		h.at(0, -1)
		h.cell(1, 21)
		h.reg(0, 3, 13)
	}
}

// TestAdd holds IAdd for each cell and every two registers, that are one among them.
func TestAdd(t *testing.T) {
	for i := range int64(8 * 8) {
		a, to := i/8, int(i%8)
		for c := range 3 {
			h := goes(t, add(c, a, to))
			h.cell(c, int64(20+c)+10+a)
			h.cell((c+1)%3, int64(20+(c+1)%3))
			h.reg(0, to, int64(20+c))
		}
		for _, x := range outside {
			h := goes(t, api.Instr{Op: api.IAdd, Cell: 2, A: a, B: int64(x), To: to})
			h.cell(2, 32+a)
			h.reg(0, to, 22)
		}
	}
	for _, x := range outside {
		ends(t, add(x, 1, 2))
		ends(t, add(1, int64(x), 2))
		ends(t, add(1, 1, x))
		ends(t, add(1, int64(x), x))
		ends(t, add(x, int64(x), x))
	}
	ends(t, add(3, 1, 2))
}

// TestWrap holds sums at the edges of 64 bits.
func TestWrap(t *testing.T) {
	for _, x := range []struct{ was, by, sum int64 }{
		{greatest, 1, least}, {greatest, greatest, -2}, {least, -1, greatest}, {least, least, 0}, {greatest, least, -1}, {least, greatest, -1},
		{-1, 1, 0}, {0, least, least}, {0, greatest, greatest}, {1 << 62, 1 << 62, least}, {1<<32 - 1, 1, 1 << 32}, {-1 << 32, 1<<32 - 1, -1}, {1<<53 + 1, 1, 1<<53 + 2},
	} {
		h := hold(t, 1, program(set(x.was, 3), store(0, 3), set(x.by, 3), add(0, 3, 3)))
		h.runs(4, times(4, 0)...)
		h.cell(0, x.sum)
		h.reg(0, 3, x.was)
		h = hold(t, 1, program(set(x.was, 3), store(0, 3), set(x.by, 4), add(0, 4, 5), add(0, 4, 5)))
		h.runs(5, times(5, 0)...)
		h.reg(0, 5, x.sum)
		h.reg(0, 4, x.by)
		h.cell(0, x.sum+x.by)
	}
}

// TestJump holds IJump for each register, to every sort of place.
func TestJump(t *testing.T) {
	n := before + 2 // how long the program is
	for a := range int64(8) {
		for _, to := range []int{0, 1, before - 1, before, before + 1} {
			h := held3(t, jump(a, 10+a, to))
			h.steps(0, 0)
			h.at(0, to)
			h.live(0, 1)
			for _, b := range []int64{least, -1, 0, 9 + a, 11 + a, 10 + a + 1<<32, (10 + a) ^ least, greatest} {
				goes(t, jump(a, b, to))
			}
		}
		for _, to := range append([]int{n, n + 1, n + 2, -2, -n, 1000}, outside...) {
			if 0 <= to && to < n {
				continue
			}
			h := held3(t, jump(a, 10+a, to))
			h.steps(0, 0)
			h.at(0, to)
			h.live(1)
			h.steps(0, 1)
			h.steps(0, 1)
			h.steps(0, -1)
			h.at(0, to)
			h.reg(0, int(a), 10+a)
			h = goes(t, jump(a, 9+a, to))
			h.steps(0, 0)
			h.at(0, n)
			h.live(1)
			h.reg(0, 5, 99)
		}
	}
	for _, x := range outside {
		ends(t, jump(int64(x), 0, 0))
		ends(t, jump(int64(x), 10, before+1))
		h := goes(t, api.Instr{Op: api.IJump, Cell: x, A: 1, B: 12, To: x})
		h.reg(0, 1, 11)
		h = held3(t, api.Instr{Op: api.IJump, Cell: x, A: 1, B: 11, To: 2})
		h.steps(0, 0)
		h.at(0, 2)
	}
}

// TestJumps holds jumps that are done again and again: to the same instruction, back, forward over others, and to the end.
func TestJumps(t *testing.T) {
	h := hold(t, 1, program(jump(3, 0, 0)))
	h.runs(9, times(9, 0)...)
	h.at(0, 0)
	h.live(0)
	loop := program(set(1, 1), add(0, 1, 2), jump(2, 4, 4), jump(0, 0, 1), set(7, 7)) // five times it adds 1
	h = hold(t, 1, loop)
	h.runs(1+5*3-1+1, times(40, 0)...)
	h.cell(0, 5)
	h.reg(0, 7, 7)
	h = hold(t, 1, program(jump(0, 0, 2), set(1, 1), jump(0, 0, 4), set(2, 2)))
	h.runs(2, times(9, 0)...)
	h.at(0, 4)
	h.reg(0, 1, 0)
	h.reg(0, 2, 0)
}

// orders calls f with every order of n steps of each of two threads, as numbers of threads; f gets one list, which it mustn't keep.
func orders(n, m int, f func(order []int)) {
	var walk func(l []int, a, b int)
	walk = func(l []int, a, b int) {
		if a == 0 && b == 0 {
			f(l)
		}
		if a > 0 {
			walk(append(l, 0), a-1, b)
		}
		if b > 0 {
			walk(append(l, 1), a, b-1)
		}
	}
	walk(make([]int, 0, n+m), n, m)
}

// inOrder makes the steps of an order, by picks that select the thread wanted.
func (h *held) inOrder(order []int) {
	h.t.Helper()
	for _, who := range order {
		h.steps(slices.Index(h.m.live(), who), who)
	}
}

// TestSums holds P18.4 for every order of the steps of two threads that add: the cell is the sum, and each thread has seen one of the values on the way. By ILoad and IStore, some orders lose something.
func TestSums(t *testing.T) {
	p := program(set(5, 1), add(0, 1, 2), add(0, 1, 3))
	q := program(set(-7, 1), add(0, 1, 2), add(0, 1, 3))
	n := 0
	orders(3, 3, func(order []int) {
		h := hold(t, 1, p, q)
		h.inOrder(order)
		h.cell(0, -4)
		h.live()
		n++
	})
	if n != 20 {
		t.Errorf("%d orders; want 20", n)
	}
	told := map[int64]int{}
	plain := program(load(0, 1), set(1, 2), store(0, 2))
	orders(3, 3, func(order []int) {
		h := hold(t, 2, slices.Concat(program(set(4, 3), add(1, 3, 4)), plain), program(load(1, 5), load(0, 6), jump(0, 0, 3)))
		h.inOrder(append([]int{0, 0}, order...))
		told[h.x.Reg(1, 6)]++
	})
	if told[0] == 0 || told[1] == 0 || len(told) != 2 {
		t.Errorf("what the other thread reads: %v; want 0 and 1", told)
	}
}

// TestSumsOfMany lets 64 threads add in long orders, each by a loop of its own.
func TestSumsOfMany(t *testing.T) {
	var l [][]api.Instr
	want := int64(0)
	for i := range 64 {
		by := int64(i*i*i) << (i % 50)
		l = append(l, program(set(by, 1), add(0, 1, 2), add(0, 1, 2), set(1, 3), add(1, 3, 4), add(0, 1, 2)))
		want += 3 * by
	}
	for _, pick := range picks {
		h := hold(t, 2, l...)
		list := times(64*6+5, pick)
		for i := range list {
			list[i] += i * (i % 7) * (pick & 1)
		}
		h.runs(64*6, list...)
		h.cell(0, want)
		h.cell(1, 64)
		h.live()
	}
}

// TestTaken holds ICas for every order of the steps of two threads that both want a cell: one has it.
func TestTaken(t *testing.T) {
	p := program(set(1, 1), cas(0, 0, 1, 2), jump(2, 0, 5), load(1, 3), set(8, 4))
	q := program(set(2, 1), cas(0, 0, 1, 2), jump(2, 0, 5), load(1, 3), set(8, 4))
	told := map[int64]int{}
	orders(3, 3, func(order []int) {
		h := hold(t, 2, p, q)
		h.inOrder(order)
		if a, b := h.x.Reg(0, 2), h.x.Reg(1, 2); a+b != 1 || h.x.Cell(0) != 2-a {
			t.Fatalf("%v: taken %d and %d times, cell %d", order, a, b, h.x.Cell(0))
		}
		told[h.x.Cell(0)]++
	})
	if told[1] != 10 || told[2] != 10 {
		t.Errorf("who has it: %v; want each in 10 of 20 orders", told)
	}
}

// TestLock lets threads that wait for a cell add by ILoad and IStore: behind the lock nothing is lost, whatever the picks are.
func TestLock(t *testing.T) {
	p := program(set(1, 1), cas(0, 0, 1, 2), jump(2, 0, 1), load(1, 3), store(2, 3), add(2, 1, 4), load(2, 3), store(1, 3), store(0, 0))
	for seed := range 200 {
		h := hold(t, 3, p, p, p, p)
		for i := 0; len(h.m.live()) > 0; i++ {
			h.step(i*i*(seed+1) + i*seed + i/7)
			if i > 10000 {
				t.Fatal("the threads do not end")
			}
		}
		h.cell(1, 4)
		h.cell(0, 0)
	}
}

// TestDeep holds a long program, at whose every instruction the thread is seen.
func TestDeep(t *testing.T) {
	h := hold(t, 1, sets(5000), sets(1))
	h.runs(4999, times(4999, 2)...)
	h.at(0, 4999)
	h.live(0, 1)
	h.steps(0, 0)
	h.at(0, 5000)
	h.live(1)
	h.reg(0, 0, 5000)
}

// TestFloatFree holds numbers that a float could not keep.
func TestFloatFree(t *testing.T) {
	v := int64(math.MaxInt64 - 1)
	h := hold(t, 1, program(set(v, 0), store(0, 0), load(0, 1), jump(1, v+1, 9), jump(1, v, 7)))
	h.runs(5, times(9, 0)...)
	h.at(0, 7)
	h.reg(0, 1, v)
	if got := fmt.Sprint(h.x.Cell(0)); got != "9223372036854775806" {
		t.Error(got)
	}
}
