package sched_test

import (
	"cmp"
	"fmt"
	"maps"
	"math"
	"math/big"
	"slices"
	"testing"

	"hayward/api"
	"hayward/sched"
	"hayward/share"
)

const (
	least    = math.MinInt64
	greatest = math.MaxInt64
)

// member is a process as the chapter tells it; since says when it has become the last one of its level.
type member struct {
	nice    int
	blocked bool
	load    float64
	since   int
}

// model is a queue that keeps no order: it finds who is before whom anew by each call, from levels and times.
type model struct {
	at   map[int]member
	time int
}

func newModel() *model {
	return &model{at: map[int]member{}}
}

// levelOf counts the levels that end below a nice value.
func levelOf(nice int) int {
	n := 0
	for _, first := range []int{-12, -4, 4, 12} {
		if nice >= first {
			n++
		}
	}
	return n
}

func isNice(nice int) bool {
	return -20 <= nice && nice <= 19
}

// pids are the numbers of all processes, in ascending order.
func (m *model) pids() []int {
	return slices.Sorted(maps.Keys(m.at))
}

// able are the numbers of the ready processes, in ascending order.
func (m *model) able() []int {
	return slices.DeleteFunc(m.pids(), func(pid int) bool { return m.at[pid].blocked })
}

// ready is P15.5's order of them.
func (m *model) ready() []int {
	out := m.able()
	slices.SortFunc(out, func(a, b int) int {
		x, y := m.at[a], m.at[b]
		return cmp.Or(cmp.Compare(levelOf(x.nice), levelOf(y.nice)), cmp.Compare(x.since, y.since))
	})
	return out
}

// put gives a process its new state; as the last one of its level, or where it is.
func (m *model) put(pid int, p member, last bool) {
	if last {
		m.time++
		p.since = m.time
	}
	m.at[pid] = p
}

// add and remove are P15.1.
func (m *model) add(pid, nice int) api.Errno {
	if pid < 1 || !isNice(nice) {
		return api.ErrArg
	}
	if _, ok := m.at[pid]; ok {
		return api.ErrExist
	}
	m.put(pid, member{nice: nice}, true)
	return api.OK
}

func (m *model) remove(pid int) api.Errno {
	if _, ok := m.at[pid]; !ok {
		return api.ErrSrch
	}
	delete(m.at, pid)
	return api.OK
}

// block, wake and nice are P15.2.
func (m *model) block(pid int) api.Errno {
	p, ok := m.at[pid]
	switch {
	case !ok:
		return api.ErrSrch
	case p.blocked:
		return api.ErrArg
	}
	p.blocked = true
	m.put(pid, p, false)
	return api.OK
}

func (m *model) wake(pid int) api.Errno {
	p, ok := m.at[pid]
	switch {
	case !ok:
		return api.ErrSrch
	case !p.blocked:
		return api.ErrArg
	}
	p.blocked = false
	m.put(pid, p, true)
	return api.OK
}

func (m *model) nice(pid, nice int) api.Errno {
	p, ok := m.at[pid]
	switch {
	case !ok:
		return api.ErrSrch
	case !isNice(nice):
		return api.ErrArg
	}
	moved := levelOf(p.nice) != levelOf(nice)
	p.nice = nice
	m.put(pid, p, moved)
	return api.OK
}

// run lets a process run once, as the chapter's words say.
func (m *model) run(pid int) {
	for n, p := range m.at {
		x := map[bool]float64{true: 1, false: 0}[n == pid]
		p.load, _ = share.Decay(p.load, x, 1)
		m.at[n] = p
	}
}

// next is P15.3.
func (m *model) next() (int, api.Errno) {
	l := m.ready()
	if len(l) == 0 {
		return 0, api.ErrAgain
	}
	m.put(l[0], m.at[l[0]], true)
	m.run(l[0])
	return l[0], api.OK
}

// weights are those of the ready processes, in ascending order of their numbers.
func (m *model) weights() []float64 {
	var out []float64
	for _, pid := range m.able() {
		w, _ := share.Weight(m.at[pid].nice)
		out = append(out, w)
	}
	return out
}

// lot is P15.4.
func (m *model) lot(p float64) (int, api.Errno) {
	if math.IsNaN(p) || p < 0 || p >= 1 {
		return 0, api.ErrArg
	}
	l := m.able()
	if len(l) == 0 {
		return 0, api.ErrAgain
	}
	i, _ := share.Choose(p, m.weights()...)
	m.run(l[i])
	return l[i], api.OK
}

// load and share are P15.5.
func (m *model) load(pid int) (float64, api.Errno) {
	p, ok := m.at[pid]
	if !ok {
		return 0, api.ErrSrch
	}
	return p.load, api.OK
}

func (m *model) share(pid int) (float64, api.Errno) {
	p, ok := m.at[pid]
	switch {
	case !ok:
		return 0, api.ErrSrch
	case p.blocked:
		return 0, api.ErrArg
	}
	return share.Share(slices.Index(m.able(), pid), m.weights()...)
}

// text tells the model apart from all others, but for the loads.
func (m *model) text() string {
	out := fmt.Sprint(m.ready())
	for _, pid := range m.pids() {
		out += fmt.Sprint(" ", pid, m.at[pid].nice, m.at[pid].blocked)
	}
	return out
}

// held is a queue beside its model: each call is made on both, and must be answered alike.
type held struct {
	t *testing.T
	x *sched.Queue
	m *model
}

func hold(t *testing.T) *held {
	t.Helper()
	x := sched.New()
	if x == nil {
		t.Fatal("New() = nil")
	}
	return &held{t, x, newModel()}
}

// same demands that a call was answered as the model does.
func same[T comparable](h *held, got, want T, e, we api.Errno, call string, args ...any) (T, api.Errno) {
	h.t.Helper()
	if got != want || e != we {
		h.t.Fatalf(call+" = %v, %d; want %v, %d", append(args, got, e, want, we)...)
	}
	return want, we
}

func (h *held) add(pid, nice int) api.Errno {
	h.t.Helper()
	_, e := same(h, 0, 0, h.x.Add(pid, nice), h.m.add(pid, nice), "Add(%d, %d)", pid, nice)
	return e
}

func (h *held) remove(pid int) api.Errno {
	h.t.Helper()
	_, e := same(h, 0, 0, h.x.Remove(pid), h.m.remove(pid), "Remove(%d)", pid)
	return e
}

func (h *held) block(pid int) api.Errno {
	h.t.Helper()
	_, e := same(h, 0, 0, h.x.Block(pid), h.m.block(pid), "Block(%d)", pid)
	return e
}

func (h *held) wake(pid int) api.Errno {
	h.t.Helper()
	_, e := same(h, 0, 0, h.x.Wake(pid), h.m.wake(pid), "Wake(%d)", pid)
	return e
}

func (h *held) nice(pid, nice int) api.Errno {
	h.t.Helper()
	_, e := same(h, 0, 0, h.x.Nice(pid, nice), h.m.nice(pid, nice), "Nice(%d, %d)", pid, nice)
	return e
}

func (h *held) next() (int, api.Errno) {
	h.t.Helper()
	want, we := h.m.next()
	got, e := h.x.Next()
	return same(h, got, want, e, we, "Next()")
}

func (h *held) lot(p float64) (int, api.Errno) {
	h.t.Helper()
	want, we := h.m.lot(p)
	got, e := h.x.Lot(p)
	return same(h, got, want, e, we, "Lot(%v)", p)
}

func (h *held) load(pid int) (float64, api.Errno) {
	h.t.Helper()
	want, we := h.m.load(pid)
	got, e := h.x.Load(pid)
	same(h, math.Float64bits(got), math.Float64bits(want), e, we, "the bits of Load(%d)", pid)
	return want, we
}

func (h *held) share(pid int) (float64, api.Errno) {
	h.t.Helper()
	want, we := h.m.share(pid)
	got, e := h.x.Share(pid)
	same(h, math.Float64bits(got), math.Float64bits(want), e, we, "the bits of Share(%d)", pid)
	return want, we
}

// must holds an answer against what the test itself says.
func (h *held) must(got, want api.Errno) {
	h.t.Helper()
	if got != want {
		h.t.Fatalf("the answer is %d; want %d", got, want)
	}
}

// check holds all that can be seen against the model.
func (h *held) check() {
	h.t.Helper()
	if got, want := h.x.Ready(), h.m.ready(); !slices.Equal(got, want) {
		h.t.Fatalf("Ready() = %v; want %v", got, want)
	}
	for _, pid := range append([]int{least, -1, 0, 1, 2, 99999, greatest}, h.m.pids()...) {
		h.load(pid)
		h.share(pid)
	}
}

// whole demands what P15.6 and the chapter's words say of every queue, without the model.
//
// Loads are float64: a process that runs again and again comes to a load of 1 by rounding, while what is left of the others is not nothing yet. So their exact sum may be above 1 by as much as halving rounds at each run: less than a step of the numbers above 1.
func (h *held) whole() {
	h.t.Helper()
	ready := h.x.Ready()
	able := slices.Sorted(slices.Values(ready))
	if len(slices.Compact(slices.Clone(able))) != len(able) {
		h.t.Fatalf("Ready() = %v", ready)
	}
	sum := new(big.Float).SetPrec(1200)
	all := 0.0
	for _, pid := range h.m.pids() {
		x, e := h.x.Load(pid)
		if !(x >= 0 && x <= 1) || e != api.OK {
			h.t.Fatalf("Load(%d) = %v, %d", pid, x, e)
		}
		sum.Add(sum, big.NewFloat(x))
		part, e := h.x.Share(pid)
		if slices.Contains(able, pid) {
			if !(part > 0 && part <= 1) || e != api.OK {
				h.t.Fatalf("Share(%d) = %v, %d", pid, part, e)
			}
			all += part
		} else if part != 0 || e != api.ErrArg {
			h.t.Fatalf("Share(%d) = %v, %d; want error %d", pid, part, e, api.ErrArg)
		}
	}
	if sum.Cmp(big.NewFloat(math.Nextafter(1, 2))) >= 0 {
		h.t.Fatalf("the sum of all loads is %s", sum.Text('g', 40))
	}
	if len(able) > 0 && math.Abs(all-1) > 1e-9 {
		h.t.Fatalf("the sum of all shares is %v", all)
	}
}

// deep wakes all that are blocked, the greatest number first, and lets all run in turn: so the nice values of blocked ones are seen, too.
func (h *held) deep() {
	h.t.Helper()
	l := h.m.pids()
	for _, pid := range slices.Backward(l) {
		if h.m.at[pid].blocked {
			h.must(h.wake(pid), api.OK)
			h.check()
		}
	}
	for range 2 * len(l) {
		h.next()
	}
	for _, pid := range l {
		h.lot(0)
		h.check()
		h.must(h.remove(pid), api.OK)
	}
	h.check()
}
