package mem_test

import (
	"fmt"
	"math"
	"slices"
	"testing"

	"hayward/api"
	"hayward/mem"
)

const (
	least    = math.MinInt64
	greatest = math.MaxInt64
)

// strand is a thread of the model.
type strand struct {
	program []api.Instr
	regs    map[int64]int64 // those that have been set
	at      int
}

// model is a machine as the chapter tells it. Who has not ended is looked for anew by each step.
type model struct {
	size    int
	cells   map[int]int64 // those that have been changed
	strands []*strand
}

func newModel(cells int, threads ...[]api.Instr) *model {
	m := &model{size: cells, cells: map[int]int64{}}
	for _, p := range threads {
		m.strands = append(m.strands, &strand{program: slices.Clone(p), regs: map[int64]int64{}})
	}
	return m
}

// live are the numbers of those that have not ended.
func (m *model) live() []int {
	var out []int
	for i, s := range m.strands {
		if 0 <= s.at && s.at < len(s.program) {
			out = append(out, i)
		}
	}
	return out
}

// whose is the thread that a pick selects, or -1.
func (m *model) whose(pick int) int {
	live := m.live()
	if len(live) == 0 {
		return -1
	}
	if pick < 0 {
		pick = ^pick
	}
	return live[pick%len(live)]
}

// named are the sorts of operands by which an instruction names something: its cell, and registers by a, b and to.
func named(op int) (string, bool) {
	switch op {
	case 1:
		return "t", true
	case 2:
		return "ct", true
	case 3:
		return "ca", true
	case 4:
		return "cabt", true
	case 5:
		return "cat", true
	case 6:
		return "a", true
	}
	return "", false
}

// there says whether all that an instruction names is there.
func (m *model) there(in api.Instr) bool {
	what, ok := named(in.Op)
	for _, w := range what {
		switch w {
		case 'c':
			ok = ok && 0 <= in.Cell && in.Cell <= m.size-1
		case 'a':
			ok = ok && 0 <= in.A && in.A <= 7
		case 'b':
			ok = ok && 0 <= in.B && in.B <= 7
		case 't':
			ok = ok && 0 <= in.To && in.To <= 7
		}
	}
	return ok
}

// step is P18.2.
func (m *model) step(pick int) int {
	who := m.whose(pick)
	if who < 0 {
		return -1
	}
	s := m.strands[who]
	in := s.program[s.at]
	if !m.there(in) {
		s.at = -1
		return who
	}
	cell, a, b, to := m.cells[in.Cell], s.regs[in.A], s.regs[in.B], int64(in.To)
	next := s.at + 1
	switch in.Op {
	case 1:
		s.regs[to] = in.A
	case 2:
		s.regs[to] = cell
	case 3:
		m.cells[in.Cell] = a
	case 4:
		s.regs[to] = 0
		if cell == a {
			m.cells[in.Cell] = b
			s.regs[to] = 1
		}
	case 5:
		s.regs[to] = cell
		m.cells[in.Cell] = int64(uint64(cell) + uint64(a))
	case 6:
		if a == in.B {
			next = in.To
		}
	}
	s.at = next
	return who
}

// held is a machine beside its model; each call is made on both.
type held struct {
	t *testing.T
	x *mem.Machine
	m *model
}

// hold makes a machine, which must be made.
func hold(t *testing.T, cells int, threads ...[]api.Instr) *held {
	t.Helper()
	x, e := mem.New(cells, threads...)
	if x == nil || e != api.OK {
		t.Fatalf("New(%d, %d threads) = %v, %d", cells, len(threads), x, e)
	}
	h := &held{t, x, newModel(cells, threads...)}
	h.check()
	return h
}

// step makes a step on both, and holds who made it and all that can be seen.
func (h *held) step(pick int) int {
	h.t.Helper()
	got, want := h.x.Step(pick), h.m.step(pick)
	if got != want {
		h.t.Fatalf("Step(%d) = %d; want %d", pick, got, want)
	}
	h.check()
	return got
}

// run runs picks on both.
func (h *held) run(picks ...int) int {
	h.t.Helper()
	want := 0
	for _, pick := range picks {
		if h.m.step(pick) < 0 {
			break
		}
		want++
	}
	if got := h.x.Run(picks...); got != want {
		h.t.Fatalf("Run(%v) = %d; want %d", picks, got, want)
	}
	h.check()
	return want
}

// check holds every thread against the model's, who has not ended, and the cells: all of a small machine, of a great one those at its ends and those that have changed.
func (h *held) check() {
	h.t.Helper()
	if got, want := h.x.Live(), h.m.live(); !slices.Equal(got, want) {
		h.t.Fatalf("Live() = %v; want %v", got, want)
	}
	for i, s := range h.m.strands {
		h.thread(i, s)
	}
	for i := range min(h.m.size, 40) {
		h.cell(i, h.m.cells[i])
		h.cell(h.m.size-1-i, h.m.cells[h.m.size-1-i])
	}
	for i, want := range h.m.cells {
		h.cell(i, want)
	}
}

// thread demands a thread's position and registers.
func (h *held) thread(i int, s *strand) {
	h.t.Helper()
	if got := h.x.At(i); got != s.at {
		h.t.Fatalf("At(%d) = %d; want %d", i, got, s.at)
	}
	for r := range 8 {
		h.reg(i, r, s.regs[int64(r)])
	}
}

// cell demands a cell's value.
func (h *held) cell(i int, want int64) {
	h.t.Helper()
	if got := h.x.Cell(i); got != want {
		h.t.Fatalf("Cell(%d) = %d; want %d", i, got, want)
	}
}

// reg demands a register's value.
func (h *held) reg(t, i int, want int64) {
	h.t.Helper()
	if got := h.x.Reg(t, i); got != want {
		h.t.Fatalf("Reg(%d, %d) = %d; want %d", t, i, got, want)
	}
}

// at demands a thread's position.
func (h *held) at(t, want int) {
	h.t.Helper()
	if got := h.x.At(t); got != want {
		h.t.Fatalf("At(%d) = %d; want %d", t, got, want)
	}
}

// live demands who has not ended, by numbers of the test itself.
func (h *held) live(want ...int) {
	h.t.Helper()
	if got := h.x.Live(); !slices.Equal(got, want) {
		h.t.Fatalf("Live() = %v; want %v", got, want)
	}
}

// steps demands who makes the next step.
func (h *held) steps(pick, want int) {
	h.t.Helper()
	if got := h.step(pick); got != want {
		h.t.Fatalf("Step(%d) = %d; want %d", pick, got, want)
	}
}

// runs demands how many steps are made.
func (h *held) runs(want int, picks ...int) {
	h.t.Helper()
	if got := h.run(picks...); got != want {
		h.t.Fatalf("Run(%v) = %d; want %d", picks, got, want)
	}
}

// seen is all that can be seen of a machine with so many cells and threads.
func seen(x *mem.Machine, cells, threads int) string {
	out := fmt.Sprint(x.Live(), ";")
	for i := range cells {
		out += fmt.Sprint(" ", x.Cell(i))
	}
	for t := range threads {
		out += fmt.Sprint("; ", x.At(t))
		for i := range 8 {
			out += fmt.Sprint(" ", x.Reg(t, i))
		}
	}
	return out
}
