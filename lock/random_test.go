package lock_test

import (
	"fmt"
	"math/rand"
	"testing"
)

// some is one of a list.
func some[T any](r *rand.Rand, l ...T) T {
	return l[r.Intn(len(l))]
}

// calm is the next call of a thread that goes on: mostly a step, and sometimes it keeps what it has for a while.
func calm(r *rand.Rand, m *model, t int) act {
	kind := byte('r')
	if r.Intn(3) == 0 {
		kind = 'w'
	}
	a := turn(m, t, kind)
	if a.what == 'l' && r.Intn(3) > 0 {
		a.what = 's'
	}
	return a
}

// wild is any call, of a thread or of none.
func wild(r *rand.Rand, n int) act {
	a := act{some(r, byte('r'), 'w', 'l', 's'), r.Intn(n)}
	if r.Intn(3) == 0 {
		a.t = some(r, append([]int{n, n + 1, -1}, outside...)...)
	}
	return a
}

// TestRandom holds long runs of any calls against the model, after each call, with few and with many threads; each sort of step must have come often.
func TestRandom(t *testing.T) {
	r := rand.New(rand.NewSource(19))
	tally := map[string]int{}
	for range 1500 {
		n := some(r, 1, 2, 2, 3, 3, 4, 5, 8, 16, 63, 64)
		busy := r.Perm(n)[:1+r.Intn(min(n, 6))]
		h := hold(t, n)
		for range 50 + r.Intn(300) {
			if r.Intn(12) == 0 {
				h.do(wild(r, n))
				continue
			}
			who := some(r, busy...)
			for range some(r, 1, 1, 1, 2, 3, 4, n+2) {
				a := calm(r, h.m, who)
				before := fmt.Sprint(h.m.state[who], " ", whose(h.m.cell, who))
				if h.do(a); a.what == 's' {
					tally[fmt.Sprint(before, " ", h.m.state[who])]++
				}
			}
		}
		h.done = nil
	}
	want := []string{"1 nobody's 2", "1 another's 1", "2 nobody's 3", "2 another's 3", "3 nobody's 5", "3 another's 4", "4 nobody's 1", "4 another's 1", "5 nobody's 5", "5 another's 5", "6 nobody's 0", "6 another's 0", "7 nobody's 8", "7 another's 7", "8 its own 8", "8 its own 9", "9 its own 9", "10 its own 0"}
	for _, w := range want {
		if tally[w] < 20 {
			t.Errorf("%q came %d times", w, tally[w])
		}
	}
	if len(tally) != len(want) {
		t.Errorf("what came: %v", tally)
	}
}

// TestRandomLong holds one long run of all 64 threads, in which nobody writes beside another, and many have read and written.
func TestRandomLong(t *testing.T) {
	r := rand.New(rand.NewSource(91))
	h := hold(t, 64)
	had := map[int]int{}
	for range 200000 {
		who := r.Intn(64)
		if s := h.m.state[who]; s == 8 || s == 4 {
			h.do(act{'s', who})
		}
		if cell, _ := h.x.Cells(); cell > 0 && r.Intn(2) == 0 {
			who = cell - 1
		}
		before := h.m.state[who]
		h.do(calm(r, h.m, who))
		if now := h.m.state[who]; now != before {
			had[now]++
		}
		h.done = h.done[max(0, len(h.done)-200):]
	}
	if had[5] < 500 || had[9] < 100 || had[4] < 50 {
		t.Errorf("%d have read, %d have written, %d have backed off", had[5], had[9], had[4])
	}
}

// TestRandomRest lets threads come and go, until all but one have gone: that one has the lock within the bounds of P19.4.
func TestRandomRest(t *testing.T) {
	r := rand.New(rand.NewSource(4))
	for range 1500 {
		n := some(r, 1, 2, 3, 5, 64)
		h := hold(t, n)
		busy := r.Perm(n)[:min(n, 5)]
		for range r.Intn(200) {
			who := some(r, busy...)
			h.do(calm(r, h.m, who))
		}
		for range 8 * (n + 8) {
			for _, who := range busy {
				if h.m.state[who] != 0 {
					h.do(turn(h.m, who, 's'))
				}
			}
		}
		h.states(make([]int, n)...)
		h.cells(0, make([]int, n)...)
		who, bound := some(r, busy...), 3
		kind := some(r, byte('r'), 'w')
		if kind == 'w' {
			bound = n + 1
		}
		h.do(act{kind, who})
		if got := h.steps(who, bound); got != bound {
			t.Errorf("%d threads, %v: %d has the lock after %d steps", n, h.done, who, got)
		}
	}
}

// TestRandomTwice makes the same calls on two locks, one of which is asked for its cells and states all the time: both answer the same.
func TestRandomTwice(t *testing.T) {
	r := rand.New(rand.NewSource(7))
	for range 300 {
		n := some(r, 1, 2, 3, 64)
		asked := hold(t, n)
		var list []act
		for range r.Intn(200) {
			a := wild(r, n)
			if r.Intn(4) > 0 {
				a = calm(r, asked.m, r.Intn(min(n, 4)))
			}
			list = append(list, a)
			asked.do(a)
		}
		quiet := lead(t, n, list)
		if a, b := seen(asked.x, n), seen(quiet.x, n); a != b {
			t.Fatalf("%v: %s; not asked in between: %s", list, a, b)
		}
	}
}
