package lock_test

import (
	"fmt"
	"maps"
	"math"
	"slices"
	"strconv"
	"strings"
	"testing"

	"hayward/api"
	"hayward/lock"
)

const (
	least    = math.MinInt64
	greatest = math.MaxInt64
)

// act is a call on a lock: r and w want to read and to write, l leaves, s makes a step.
type act struct {
	what byte
	t    int
}

func (a act) String() string {
	return fmt.Sprintf("%c%d", a.what, a.t)
}

// row is a row of the chapter's table: what a step looks at (c the writer cell, f the flag that is checked, or nothing), the next state if that is 0 and if it isn't, and what changes if it is.
type row struct {
	looks   byte
	yes, no int
	does    string
}

// rows are the chapter's table.
func rows() [11]row {
	return [11]row{
		{0, 0, 0, ""},
		{'c', 2, 1, ""},
		{0, 3, 0, "flag 1"},
		{'c', 5, 4, ""},
		{0, 1, 0, "flag 0"},
		{0, 5, 0, ""},
		{0, 0, 0, "flag 0"},
		{'c', 8, 7, "cell own"},
		{'f', 8, 8, "next"},
		{0, 9, 0, ""},
		{0, 0, 0, "cell 0"},
	}
}

// model is a lock as the chapter tells it, by its table.
type model struct {
	n     int
	cell  int
	flags map[int]int
	state map[int]int // of those that aren't idle
	next  map[int]int // the flag that a thread in state 8 checks
}

func newModel(n int) *model {
	return &model{n: n, flags: map[int]int{}, state: map[int]int{}, next: map[int]int{}}
}

// copy is another model that is like m.
func (m *model) copy() *model {
	return &model{m.n, m.cell, maps.Clone(m.flags), maps.Clone(m.state), maps.Clone(m.next)}
}

// key tells all of a model apart.
func (m *model) key() string {
	out := strconv.Itoa(m.cell)
	for t := range m.n {
		out += fmt.Sprint(" ", m.state[t], m.flags[t])
		if m.state[t] == 8 {
			out += fmt.Sprint("@", m.next[t])
		}
	}
	return out
}

// step is P19.3.
func (m *model) step(t int) int {
	r := rows()[m.state[t]]
	seen := 0
	switch r.looks {
	case 'c':
		seen = m.cell
	case 'f':
		seen = m.flags[m.next[t]]
	}
	if seen != 0 {
		m.state[t] = r.no
		return r.no
	}
	m.state[t] = r.yes
	switch r.does {
	case "flag 1":
		m.flags[t] = 1
	case "flag 0":
		m.flags[t] = 0
	case "cell own":
		m.cell = t + 1
		m.next[t] = 0
	case "cell 0":
		m.cell = 0
	case "next":
		m.next[t]++
		if m.next[t] == m.n {
			m.state[t] = 9
		}
	}
	return m.state[t]
}

// do is a call, with the state that a step answers.
func (m *model) do(a act) (int, api.Errno) {
	if !(0 <= a.t && a.t <= m.n-1) {
		return 0, api.ErrArg
	}
	now := m.state[a.t]
	switch {
	case a.what == 's':
		return m.step(a.t), api.OK
	case a.what == 'r' && now == 0:
		m.state[a.t] = 1
	case a.what == 'w' && now == 0:
		m.state[a.t] = 7
	case a.what == 'l' && now == 5:
		m.state[a.t] = 6
	case a.what == 'l' && now == 9:
		m.state[a.t] = 10
	default:
		return 0, api.ErrAgain
	}
	return 0, api.OK
}

// held is a lock beside its model; each call is made on both.
type held struct {
	t    *testing.T
	x    *lock.Lock
	m    *model
	done []act
}

// hold makes a lock, which must be made.
func hold(t *testing.T, n int) *held {
	t.Helper()
	x, e := lock.New(n)
	if x == nil || e != api.OK {
		t.Fatalf("New(%d) = %v, %d", n, x, e)
	}
	h := &held{t: t, x: x, m: newModel(n)}
	h.check()
	return h
}

// calls makes a call on a lock.
func calls(x *lock.Lock, a act) (int, api.Errno) {
	switch a.what {
	case 'r':
		return 0, x.Want(a.t, false)
	case 'w':
		return 0, x.Want(a.t, true)
	case 'l':
		return 0, x.Leave(a.t)
	}
	return x.Step(a.t)
}

// do makes a call on both, and holds what it answers and all that can be seen.
func (h *held) do(a act) (int, api.Errno) {
	h.t.Helper()
	want, bad := h.m.do(a)
	got, e := calls(h.x, a)
	if h.done = append(h.done, a); got != want || e != bad {
		h.t.Fatalf("%d threads, %v: %v = %d, %d; want %d, %d", h.m.n, h.done, a, got, e, want, bad)
	}
	h.check()
	return got, e
}

// check holds all states, the cells, and that nobody writes beside another that reads or writes.
func (h *held) check() {
	h.t.Helper()
	readers, writers := 0, 0
	for t := range h.m.n {
		got := h.x.State(t)
		if got != h.m.state[t] {
			h.t.Fatalf("%d threads, %v: State(%d) = %d; want %d", h.m.n, h.done, t, got, h.m.state[t])
		}
		switch got {
		case 5:
			readers++
		case 9:
			writers++
		}
	}
	if writers > 1 || writers == 1 && readers > 0 {
		h.t.Fatalf("%d threads, %v: %d read, %d write", h.m.n, h.done, readers, writers)
	}
	cell, flags := h.x.Cells()
	if cell != h.m.cell || len(flags) != h.m.n {
		h.t.Fatalf("%d threads, %v: Cells() = %d, %v; want %d", h.m.n, h.done, cell, flags, h.m.cell)
	}
	for t, f := range flags {
		if f != h.m.flags[t] {
			h.t.Fatalf("%d threads, %v: Cells() = %d, %v; want %d as flag %d", h.m.n, h.done, cell, flags, h.m.flags[t], t)
		}
	}
}

// play makes the calls of a script: one a word, as r0, w1, l0 or s1; behind a colon stands the state that a step answers, behind a question mark the error.
func (h *held) play(script string) {
	h.t.Helper()
	for _, word := range strings.Fields(script) {
		call, bad, refused := strings.Cut(word, "?")
		call, want, answered := strings.Cut(call, ":")
		t, err := strconv.Atoi(call[1:])
		if err != nil {
			h.t.Fatal(word)
		}
		got, e := h.do(act{call[0], t})
		if refused && strconv.Itoa(int(e)) != bad || !refused && e != api.OK {
			h.t.Fatalf("%s: %s = error %d", script, word, e)
		}
		if answered && strconv.Itoa(got) != want {
			h.t.Fatalf("%s: %s = %d", script, word, got)
		}
	}
}

// cells demands the writer cell and all flags, by numbers of the test itself.
func (h *held) cells(cell int, flags ...int) {
	h.t.Helper()
	if c, l := h.x.Cells(); c != cell || !slices.Equal(l, flags) {
		h.t.Fatalf("%v: Cells() = %d, %v; want %d, %v", h.done, c, l, cell, flags)
	}
}

// states demands the states of all threads.
func (h *held) states(want ...int) {
	h.t.Helper()
	for t, s := range want {
		if got := h.x.State(t); got != s {
			h.t.Fatalf("%v: State(%d) = %d; want %d", h.done, t, got, s)
		}
	}
}

// steps makes steps of a thread until it has the lock, at most so many, and answers how many there were.
func (h *held) steps(t, most int) int {
	h.t.Helper()
	for i := range most {
		if s, _ := h.do(act{'s', t}); s == 5 || s == 9 {
			return i + 1
		}
	}
	h.t.Fatalf("%d threads, %v: %d has not the lock after %d steps", h.m.n, h.done, t, most)
	return 0
}

// seen is all that can be seen of a lock with n threads.
func seen(x *lock.Lock, n int) string {
	cell, flags := x.Cells()
	out := fmt.Sprint(cell, flags)
	for t := range n {
		out += fmt.Sprint(" ", x.State(t))
	}
	return out
}
