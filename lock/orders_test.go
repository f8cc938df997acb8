package lock_test

import (
	"fmt"
	"slices"
	"testing"

	"hayward/api"
)

// place is a state that calls reach, with the calls that lead to it.
type place struct {
	m   *model
	way []act
}

// acts are all calls on a lock of n threads, by numbers of threads.
func acts(n int) []act {
	var out []act
	for t := range n {
		for _, what := range "rwls" {
			out = append(out, act{byte(what), t})
		}
	}
	return out
}

// reach is each state that calls on a lock of n threads reach, with one of the shortest ways to it.
func reach(n int) []place {
	first := newModel(n)
	out := []place{{first, nil}}
	known := map[string]bool{first.key(): true}
	for i := 0; i < len(out); i++ {
		for _, a := range acts(n) {
			m := out[i].m.copy()
			m.do(a)
			if k := m.key(); !known[k] {
				known[k] = true
				out = append(out, place{m, append(slices.Clone(out[i].way), a)})
			}
		}
	}
	return out
}

// lead makes a lock and goes a way.
func lead(t *testing.T, n int, way []act) *held {
	t.Helper()
	h := hold(t, n)
	for _, a := range way {
		h.m.do(a)
		calls(h.x, a)
	}
	h.done = slices.Clone(way)
	h.check()
	return h
}

// whose says what the writer cell is to a thread.
func whose(cell, t int) string {
	switch cell {
	case 0:
		return "nobody's"
	case t + 1:
		return "its own"
	}
	return "another's"
}

// TestReach makes each call in each state that calls of up to four threads reach: those that are refused, and then one that isn't. The chapter's table has no state, and no way out of one, that doesn't come about.
func TestReach(t *testing.T) {
	seen, ways := map[string]bool{}, map[string]bool{}
	for n := 1; n <= 4; n++ {
		for _, p := range reach(n) {
			for i := range n {
				seen[fmt.Sprint(p.m.state[i], " ", whose(p.m.cell, i))] = true
			}
			var bad []act
			for _, a := range acts(n) {
				if _, e := p.m.copy().do(a); e != api.OK {
					bad = append(bad, a)
				}
			}
			for _, a := range acts(n) {
				if slices.Contains(bad, a) {
					continue
				}
				h := lead(t, n, p.way)
				for _, b := range bad {
					h.do(b)
				}
				before := h.m.state[a.t]
				h.do(a)
				ways[fmt.Sprintf("%d %c %d", before, a.what, h.x.State(a.t))] = true
			}
		}
	}
	both, own := []int{0, 1, 2, 3, 4, 5, 6, 7}, []int{8, 9, 10}
	for _, s := range both {
		demand(t, seen, fmt.Sprint(s, " nobody's"))
		demand(t, seen, fmt.Sprint(s, " another's"))
	}
	for _, s := range own {
		demand(t, seen, fmt.Sprint(s, " its own"))
	}
	for _, way := range []string{"0 r 1", "0 w 7", "5 l 6", "9 l 10", "0 s 0", "1 s 1", "1 s 2", "2 s 3", "3 s 4", "3 s 5", "4 s 1", "5 s 5", "6 s 0", "7 s 7", "7 s 8", "8 s 8", "8 s 9", "9 s 9", "10 s 0"} {
		demand(t, ways, way)
	}
	if len(seen) != 0 || len(ways) != 0 {
		t.Errorf("beyond the table: %v, %v", seen, ways)
	}
}

// demand takes out what must be there.
func demand(t *testing.T, l map[string]bool, what string) {
	t.Helper()
	if !l[what] {
		t.Errorf("%q doesn't come about", what)
	}
	delete(l, what)
}

// alone is the thread that isn't idle, if there is just one, and it wants the lock.
func alone(m *model) (int, bool) {
	who := -1
	for t := range m.n {
		if m.state[t] == 0 {
			continue
		}
		if who >= 0 {
			return 0, false
		}
		who = t
	}
	return who, who >= 0 && slices.Contains([]int{1, 2, 3, 4, 7, 8}, m.state[who])
}

// left is how many steps a thread that is alone needs. One that is backing off has to begin again.
func left(m *model, t int) int {
	switch s := m.state[t]; s {
	case 1, 2, 3:
		return 4 - s
	case 4:
		return 1 + 3
	case 7:
		return m.n + 1
	}
	return m.n - m.next[t]
}

// TestAlone holds the bounds of P19.4 in each state that calls of up to four threads reach and in which all others are idle.
func TestAlone(t *testing.T) {
	tally := map[int]int{}
	for n := 1; n <= 4; n++ {
		for _, p := range reach(n) {
			who, ok := alone(p.m)
			if !ok {
				continue
			}
			tally[p.m.state[who]]++
			h := lead(t, n, p.way)
			want := left(p.m, who)
			if got := h.steps(who, want); got != want {
				t.Errorf("%d threads, %v: %d has the lock after %d steps; want %d", n, p.way, who, got, want)
			}
		}
	}
	for _, s := range []int{1, 2, 3, 4, 7, 8} {
		if tally[s] == 0 {
			t.Errorf("state %d: nobody was alone in it", s)
		}
	}
}

// TestAloneOfMany holds the bounds for each thread of locks of up to 64, again and again.
func TestAloneOfMany(t *testing.T) {
	for n := 1; n <= 64; n++ {
		h := hold(t, n)
		for _, i := range []int{0, n / 2, n - 1, n - 1, 0} {
			h.do(act{'r', i})
			if got := h.steps(i, 3); got != 3 {
				t.Errorf("%d threads: %d reads after %d steps", n, i, got)
			}
			h.do(act{'l', i})
			h.do(act{'s', i})
			h.do(act{'w', i})
			if got := h.steps(i, n+1); got != n+1 {
				t.Errorf("%d threads: %d writes after %d steps", n, i, got)
			}
			h.do(act{'l', i})
			h.do(act{'s', i})
		}
	}
}

// turn is the next call of a thread that takes the lock and gives it back again and again.
func turn(m *model, t int, kind byte) act {
	switch m.state[t] {
	case 0:
		return act{kind, t}
	case 5, 9:
		return act{'l', t}
	}
	return act{'s', t}
}

// orders goes through all orders of so many turns of threads, each of which has its kind.
func orders(t *testing.T, kinds string, length int) {
	t.Helper()
	n := len(kinds)
	all := 1
	for range length {
		all *= n
	}
	for order := range all {
		h := hold(t, n)
		for range length {
			who := order % n
			order /= n
			h.do(turn(h.m, who, kinds[who]))
		}
	}
}

// TestOrders holds all orders of two threads' and of three threads' turns, readers and writers, one by one: nobody writes beside another (P19.4), and all is as the model has it.
func TestOrders(t *testing.T) {
	for _, kinds := range []string{"rr", "rw", "wr", "ww"} {
		orders(t, kinds, 14)
	}
	for _, kinds := range []string{"rrr", "rrw", "rwr", "rww", "wrr", "wrw", "wwr", "www"} {
		orders(t, kinds, 9)
	}
}

// TestOrdersOfCalls holds all orders of calls of one and of two threads, refused ones among them.
func TestOrdersOfCalls(t *testing.T) {
	for _, x := range []struct{ n, length int }{{1, 9}, {2, 5}} {
		l, all := acts(x.n), 1
		for range x.length {
			all *= len(l)
		}
		for order := range all {
			h := hold(t, x.n)
			for range x.length {
				h.do(l[order%len(l)])
				order /= len(l)
			}
		}
	}
}
