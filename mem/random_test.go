package mem_test

import (
	"fmt"
	"math/rand"
	"testing"

	"hayward/api"
)

// some is one of a list.
func some[T any](r *rand.Rand, l ...T) T {
	return l[r.Intn(len(l))]
}

// mostly is a number below n, but now and then one that is none of those.
func mostly(r *rand.Rand, n int) int {
	if r.Intn(40) == 0 {
		return some(r, outside...)
	}
	return r.Intn(n)
}

// value is a number such as threads compare, or one of any size.
func value(r *rand.Rand) int64 {
	switch r.Intn(8) {
	case 0:
		return int64(some(r, picks...))
	case 1:
		return int64(r.Uint64())
	}
	return int64(r.Intn(3))
}

// place is where a jump in a program of n instructions may go.
func place(r *rand.Rand, n int) int {
	switch r.Intn(12) {
	case 0:
		return some(r, outside...)
	case 1, 2:
		return some(r, -1, n, n, n+1)
	}
	return r.Intn(n)
}

// instr is an instruction of a program of n; most of them name what is there, on a machine with so many cells.
func instr(r *rand.Rand, cells, n int) api.Instr {
	in := api.Instr{Op: 1 + r.Intn(6), Cell: mostly(r, cells), A: int64(mostly(r, 8)), B: int64(mostly(r, 8)), To: mostly(r, 8)}
	switch in.Op {
	case api.ISet:
		in.A = value(r)
	case api.IJump:
		in.B, in.To = value(r), place(r, n)
	}
	if r.Intn(60) == 0 {
		in.Op = some(r, append([]int{0, 7}, outside...)...)
	}
	return in
}

// programs are up to 6 lists of up to 12 instructions.
func programs(r *rand.Rand, cells int) [][]api.Instr {
	var out [][]api.Instr
	for range r.Intn(7) {
		n := r.Intn(13)
		var p []api.Instr
		for range n {
			p = append(p, instr(r, cells, n))
		}
		out = append(out, p)
	}
	return out
}

// pick is a small number or one of any size.
func pick(r *rand.Rand) int {
	switch r.Intn(4) {
	case 0:
		return some(r, picks...)
	case 1:
		return int(r.Uint64())
	}
	return r.Intn(16) - 8
}

// came is what a pick comes to, by the model ahead of the step: the instruction's Op, and what becomes of it.
func came(m *model, pick int) string {
	who := m.whose(pick)
	if who < 0 {
		return "nobody"
	}
	s := m.strands[who]
	in := s.program[s.at]
	switch {
	case in.Op < 1 || in.Op > 6:
		return "no Op"
	case !m.there(in):
		return fmt.Sprint(in.Op, " ends")
	case in.Op == api.ICas && m.cells[in.Cell] == s.regs[in.A]:
		return "4 takes"
	case in.Op == api.IJump && s.regs[in.A] != in.B:
		return "6 stays"
	case in.Op == api.IJump && in.To < 0:
		return "6 below"
	case in.Op == api.IJump && in.To == len(s.program):
		return "6 to the end"
	case in.Op == api.IJump && in.To > len(s.program):
		return "6 beyond"
	case in.Op == api.IJump && in.To == s.at:
		return "6 to itself"
	case in.Op == api.IJump && in.To < s.at:
		return "6 back"
	}
	return fmt.Sprint(in.Op)
}

// TestRandom holds long runs of any programs against the model, after each step; each sort of step must have come often.
func TestRandom(t *testing.T) {
	r := rand.New(rand.NewSource(18))
	tally := map[string]int{}
	for range 6000 {
		cells := some(r, 1, 1, 2, 3, 4, 8)
		h := hold(t, cells, programs(r, cells)...)
		for range r.Intn(120) {
			p := pick(r)
			tally[came(h.m, p)]++
			h.step(p)
		}
	}
	want := []string{"nobody", "no Op", "1", "1 ends", "2", "2 ends", "3", "3 ends", "4", "4 takes", "4 ends", "5", "5 ends", "6", "6 ends", "6 stays", "6 below", "6 to the end", "6 beyond", "6 to itself", "6 back"}
	for _, w := range want {
		if tally[w] < 150 {
			t.Errorf("%q came %d times", w, tally[w])
		}
	}
	if len(tally) != len(want) {
		t.Errorf("what came: %v", tally)
	}
}

// TestRandomRuns holds runs of lists of picks against the model, and that it is the same to run them in pieces.
func TestRandomRuns(t *testing.T) {
	r := rand.New(rand.NewSource(81))
	short, whole := 0, 0
	for range 4000 {
		cells := some(r, 1, 2, 5)
		l := programs(r, cells)
		var list []int
		for range r.Intn(90) {
			list = append(list, pick(r))
		}
		h, pieces := hold(t, cells, l...), hold(t, cells, l...)
		n, sum := h.run(list...), 0
		for rest := list; len(rest) > 0; {
			k := 1 + r.Intn(len(rest))
			sum += pieces.run(rest[:k]...)
			rest = rest[k:]
		}
		if a, b := seen(h.x, cells, len(l)), seen(pieces.x, cells, len(l)); sum != n || a != b {
			t.Fatalf("%v: in one piece %d, %s; in pieces %d, %s", list, n, a, sum, b)
		}
		if n < len(list) {
			short++
		} else {
			whole++
		}
	}
	if short < 300 || whole < 300 {
		t.Errorf("%d runs stopped short, %d did not", short, whole)
	}
}

// TestRandomSums holds P18.4: whatever the programs and the picks are, a cell that only IAdd changes is the sum of what was added, with wrap-round.
func TestRandomSums(t *testing.T) {
	r := rand.New(rand.NewSource(4))
	for range 2000 {
		l := programs(r, 3)
		for _, p := range l {
			for i, in := range p {
				if in.Cell == 0 && (in.Op == api.IStore || in.Op == api.ICas) {
					p[i].Op, p[i].Cell = api.IAdd, 0
				}
			}
		}
		h, sum := hold(t, 3, l...), int64(0)
		for range r.Intn(200) {
			p := pick(r)
			if who := h.m.whose(p); who >= 0 {
				s := h.m.strands[who]
				if in := s.program[s.at]; in.Op == api.IAdd && in.Cell == 0 && h.m.there(in) {
					sum += h.x.Reg(who, int(in.A))
				}
			}
			h.step(p)
			h.cell(0, sum)
		}
	}
}

// TestRandomGreat holds runs on machines with as many cells and threads as may be.
func TestRandomGreat(t *testing.T) {
	r := rand.New(rand.NewSource(6))
	for range 20 {
		cells := some(r, 65535, 65536)
		var l [][]api.Instr
		for range 64 {
			p := program(set(value(r), 1))
			for range r.Intn(20) {
				c := some(r, 0, 1, cells-2, cells-1, cells-1, r.Intn(cells))
				p = append(p, some(r, add(c, 1, r.Intn(8)), store(c, int64(r.Intn(8))), load(c, r.Intn(8)), cas(c, 2, 1, 3)))
			}
			if r.Intn(4) == 0 {
				p = append(p, some(r, load(cells, 0), store(cells, 0), add(-1, 0, 0), cas(1<<16+1, 0, 0, 0)), set(1, 0))
			}
			l = append(l, p)
		}
		h := hold(t, cells, l...)
		for len(h.m.live()) > 0 {
			var list []int
			for range 1 + r.Intn(40) {
				list = append(list, pick(r))
			}
			h.run(list...)
		}
		h.live()
		for i := range cells {
			h.cell(i, h.m.cells[i])
		}
	}
}
