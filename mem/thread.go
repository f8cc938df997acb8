package mem

import (
	"slices"

	"hayward/api"
)

// width is how many registers a thread has.
const width = 8

// nowhere is the position of a thread whose instruction named something that is not there.
const nowhere = -1

// thread is one that does a program: its registers, and where it stands.
type thread struct {
	program   []api.Instr
	registers [width]int64
	at        int
}

// newThread is at the beginning of a program of its own, which nobody else can change.
func newThread(program []api.Instr) thread {
	return thread{program: slices.Clone(program)}
}

// ended says whether a thread stands at no instruction.
func (t *thread) ended() bool {
	return t.at < 0 || t.at >= len(t.program)
}

// isRegister says whether an operand names a register.
func isRegister(operand int64) bool {
	return operand >= 0 && operand < width
}

// has says whether there is a cell i.
func has(cells []int64, i int) bool {
	return i >= 0 && i < len(cells)
}

// isSound says whether everything that an instruction names is there. Operands that it does not use name nothing.
func isSound(in api.Instr, cells []int64) bool {
	cell, to := has(cells, in.Cell), isRegister(int64(in.To))
	a, b := isRegister(in.A), isRegister(in.B)
	switch in.Op {
	case api.ISet:
		return to
	case api.ILoad:
		return cell && to
	case api.IStore:
		return cell && a
	case api.ICas:
		return cell && a && b && to
	case api.IAdd:
		return cell && a && to
	case api.IJump:
		return a
	}
	return false
}

// step does the instruction at which a thread that has not ended stands, or ends the thread.
func (t *thread) step(cells []int64) {
	in := t.program[t.at]
	if !isSound(in, cells) {
		t.at = nowhere
		return
	}
	t.at++
	switch in.Op {
	case api.ISet:
		t.registers[in.To] = in.A
	case api.ILoad:
		t.registers[in.To] = cells[in.Cell]
	case api.IStore:
		cells[in.Cell] = t.registers[in.A]
	case api.ICas:
		t.registers[in.To] = swap(&cells[in.Cell], t.registers[in.A], t.registers[in.B])
	case api.IAdd:
		t.registers[in.To] = add(&cells[in.Cell], t.registers[in.A])
	case api.IJump:
		if t.registers[in.A] == in.B {
			t.at = in.To
		}
	}
}

// swap gives a cell a new value if it has the old one, and answers 1 then, otherwise 0.
func swap(cell *int64, old, fresh int64) int64 {
	if *cell != old {
		return 0
	}
	*cell = fresh
	return 1
}

// add adds to a cell, and answers what it was before.
func add(cell *int64, by int64) int64 {
	before := *cell
	*cell += by
	return before
}
