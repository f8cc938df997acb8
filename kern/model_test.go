package kern_test

import (
	"fmt"
	"math"
	"slices"
	"strings"
	"testing"

	"hayward/api"
	"hayward/kern"
)

const (
	least    = math.MinInt64
	greatest = math.MaxInt64
	full     = 1048576 // bytes of the longest file
	longest  = 8192    // bytes of the longest frame of a call
)

// some are the capacities of the chapter's examples.
var some = api.Caps{Inodes: 8, Bytes: 100, Links: 2, Files: 4, Opens: 8, Procs: 4, Frames: 40}

// twin is a service of one kind in its plainest form, to hold the real one against.
type twin interface {
	has(pid int) bool
	perform(pid int, c api.Call) (int64, string, api.Errno)
	state() string
}

// numbersOf are the numbers of the calls of each service, by the chapter's table.
var numbersOf = map[int][]int{
	1: {1, 2, 3, 4, 5, 6, 7, 8, 9, 10, 11, 12, 13, 14, 101, 102},
	2: {15, 16, 17, 18, 19, 103, 104},
	3: {22, 23, 24, 25, 105, 106, 107},
}

// routeOf is P17.2.
func routeOf(no int) int {
	for kind, l := range numbersOf {
		if slices.Contains(l, no) {
			return kind
		}
	}
	return 0
}

func newTwin(kind int, c api.Caps) twin {
	switch kind {
	case 1:
		return newFileTwin(c)
	case 2:
		return newMemTwin(c)
	}
	return newProcTwin(c)
}

// ask is what the chapter's words say of executing.
func ask(kind int, w twin, pid int, c api.Call) api.Reply {
	switch {
	case routeOf(c.No) != kind:
		return api.Reply{Code: 10}
	case c.No != 103 && !w.has(pid):
		return api.Reply{Code: 19}
	}
	n, s, e := w.perform(pid, c)
	if e != 0 {
		return api.Reply{Code: e}
	}
	return api.Reply{N: n, S: s}
}

// numbered is numbers as frames have them.
func numbered(l ...int64) string {
	var b strings.Builder
	for _, n := range l {
		for range 8 {
			b.WriteByte(byte(n))
			n >>= 8
		}
	}
	return b.String()
}

// lettered is a text as frames have it.
func lettered(s string) string {
	return numbered(int64(len(s)))[:4] + s
}

// shapes are the shapes of calls by their numbers.
var shapes = strings.Split("-,tn,n,n,nn,nt,nnn,nn,n,t,t,tt,t,tt,t,nnn,nn,nnn,n,nn,n,n,n,nn,n,", ",")

// frameOf is the frame of a call, with the elements that its shape uses.
func frameOf(c api.Call) string {
	out, ns, ss := numbered(int64(c.No)), c.N[:], c.S[:]
	for _, letter := range shapes[c.No] {
		if letter == 'n' {
			out, ns = out+numbered(ns[0]), ns[1:]
		} else {
			out, ss = out+lettered(ss[0]), ss[1:]
		}
	}
	return out
}

// low is a number of so many bytes at the beginning of a string that has them.
func low(s string, size int) int64 {
	n := uint64(0)
	for i := range size {
		n += uint64(s[i]) << (8 * i)
	}
	return int64(n)
}

// callOf is the call of a frame.
func callOf(s string) (api.Call, api.Errno) {
	if len(s) < 8 || len(s) > longest {
		return api.Call{}, 2
	}
	no := low(s, 8)
	if no < 1 || no > 25 {
		return api.Call{}, 10
	}
	c, ns, ss := api.Call{No: int(no)}, 0, 0
	rest := s[8:]
	for _, letter := range shapes[no] {
		size := map[rune]int{'n': 8, 't': 4}[letter]
		if len(rest) < size {
			return api.Call{}, 2
		}
		n := low(rest, size)
		rest = rest[size:]
		if letter == 'n' {
			c.N[ns] = n
			ns++
			continue
		}
		if n > int64(len(rest)) {
			return api.Call{}, 2
		}
		c.S[ss], rest = rest[:n], rest[n:]
		ss++
	}
	if rest != "" {
		return api.Call{}, 2
	}
	return c, 0
}

// replyOf is the reply of a frame; it demands that there is one.
func replyOf(t *testing.T, s string) api.Reply {
	t.Helper()
	if len(s) < 20 || low(s[16:], 4) != int64(len(s)-20) {
		t.Fatalf("this is no frame of a reply: %.60q", s)
	}
	return api.Reply{Code: api.Errno(low(s, 8)), N: low(s[8:], 8), S: s[20:]}
}

// trio is a kernel in its plainest form: a twin of each kind.
type trio [4]twin

func newTrio(c api.Caps) *trio {
	return &trio{1: newTwin(1, c), 2: newTwin(2, c), 3: newTwin(3, c)}
}

func (k *trio) do(kind, pid, no int, n int64) api.Reply {
	return ask(kind, k[kind], pid, api.Call{No: no, N: [3]int64{n}})
}

// answer is a kernel call.
func (k *trio) answer(pid int, frame string) api.Reply {
	c, e := callOf(frame)
	switch {
	case e != 0:
		return api.Reply{Code: e}
	case c.No == 20:
		return k.spawn(pid, c.N[0])
	case c.No == 21:
		return k.exit(pid, c.N[0])
	}
	kind := routeOf(c.No)
	return ask(kind, k[kind], pid, c)
}

// spawn is CSpawn.
func (k *trio) spawn(pid int, nice int64) api.Reply {
	child := k.do(3, pid, 105, nice)
	if child.Code != 0 {
		return child
	}
	cloned := k.do(1, pid, 101, child.N)
	if cloned.Code != 0 {
		k.do(3, pid, 106, child.N)
		return cloned
	}
	spaced := k.do(2, int(child.N), 103, 0)
	if spaced.Code != 0 {
		k.do(1, int(child.N), 102, 0)
		k.do(3, pid, 106, child.N)
		return spaced
	}
	return api.Reply{N: child.N}
}

// exit is CExit.
func (k *trio) exit(pid int, code int64) api.Reply {
	if pid == 1 {
		return api.Reply{Code: 27}
	}
	if r := k.do(2, pid, 104, 0); r.Code != 0 {
		return r
	}
	k.do(1, pid, 102, 0)
	return k.do(3, pid, 107, code)
}

// text is lines.
type text struct{ strings.Builder }

// line writes a line; the words behind its letter are numbers or texts.
func (x *text) line(letter string, words ...any) {
	x.WriteString(letter)
	for _, w := range words {
		fmt.Fprintf(x, " %v", w)
	}
	x.WriteString("\n")
}

// show is a call, with its beginning alone where it is long.
func show(c api.Call) string {
	return fmt.Sprintf("{%d %v %.80q %.80q}", c.No, c.N, c.S[0], c.S[1])
}

// differ tells where two states part.
func differ(got, want string) string {
	a, b := strings.SplitAfter(got, "\n"), strings.SplitAfter(want, "\n")
	for i := range max(len(a), len(b)) {
		if i >= len(a) || i >= len(b) || a[i] != b[i] {
			return fmt.Sprintf("line %d: %.200q; want %.200q", i+1, a[min(i, len(a)):min(i+3, len(a))], b[min(i, len(b)):min(i+3, len(b))])
		}
	}
	return ""
}

// held is a service beside its twin: each call is made on both, and must be answered alike.
type held struct {
	t    *testing.T
	kind int
	s    *kern.Service
	w    twin
}

func hold(t *testing.T, kind int, c api.Caps) *held {
	t.Helper()
	s, e := kern.NewService(kind, c)
	if s == nil || e != api.OK {
		t.Fatalf("NewService(%d, %+v) = %v, %d", kind, c, s, e)
	}
	h := &held{t, kind, s, newTwin(kind, c)}
	h.check()
	return h
}

// check holds the state against the twin's.
func (h *held) check() {
	h.t.Helper()
	if d := differ(h.s.State(), h.w.state()); d != "" {
		h.t.Fatalf("the state of service %d has %s", h.kind, d)
	}
}

// do makes a call, demands the twin's reply and state, and gives the reply back. A reply with an error has changed nothing.
func (h *held) do(pid int, c api.Call) api.Reply {
	h.t.Helper()
	before := h.s.State()
	want := ask(h.kind, h.w, pid, c)
	got := h.s.Do(pid, c)
	if got != want {
		h.t.Fatalf("Do(%d, %s) = %.200q; want %.200q", pid, show(c), fmt.Sprint(got), fmt.Sprint(want))
	}
	if got.Code != 0 {
		if got.N != 0 || got.S != "" {
			h.t.Fatalf("Do(%d, %s) tells %d with %d, %q", pid, show(c), got.Code, got.N, got.S)
		}
		if after := h.s.State(); after != before {
			h.t.Fatalf("Do(%d, %s) tells %d, but has changed %s", pid, show(c), got.Code, differ(after, before))
		}
	}
	h.check()
	return got
}

// call makes a call that has numbers alone.
func (h *held) call(pid, no int, n ...int64) api.Reply {
	h.t.Helper()
	c := api.Call{No: no}
	copy(c.N[:], n)
	return h.do(pid, c)
}

// with makes a call that has texts, and numbers behind them.
func (h *held) with(pid, no int, s []string, n ...int64) api.Reply {
	h.t.Helper()
	c := api.Call{No: no}
	copy(c.S[:], s)
	copy(c.N[:], n)
	return h.do(pid, c)
}

// want demands what the test itself says of a reply.
func want(t *testing.T, got, want api.Reply) {
	t.Helper()
	if got != want {
		t.Fatalf("the reply is %.200q; want %.200q", fmt.Sprint(got), fmt.Sprint(want))
	}
}

// refused demands an error.
func refused(t *testing.T, got api.Reply, e api.Errno) {
	t.Helper()
	want(t, got, api.Reply{Code: e})
}

// whole is a kernel beside its twins.
type whole struct {
	t *testing.T
	k *kern.Kernel
	w *trio
}

func holdAll(t *testing.T, c api.Caps) *whole {
	t.Helper()
	k, e := kern.New(c)
	if k == nil || e != api.OK {
		t.Fatalf("New(%+v) = %v, %d", c, k, e)
	}
	h := &whole{t, k, newTrio(c)}
	h.check()
	return h
}

// states are those of the three services.
func (h *whole) states() [3]string {
	var out [3]string
	for i := range out {
		out[i] = h.k.Service(i + 1).State()
	}
	return out
}

// check holds the states against the twins'.
func (h *whole) check() {
	h.t.Helper()
	for i, s := range h.states() {
		if d := differ(s, h.w[i+1].state()); d != "" {
			h.t.Fatalf("the state of service %d has %s", i+1, d)
		}
	}
}

// loose makes a kernel call, demands the twins' reply and states, and gives the reply back.
func (h *whole) loose(pid int, frame string) api.Reply {
	h.t.Helper()
	want := h.w.answer(pid, frame)
	s := h.k.Call(pid, frame)
	got := replyOf(h.t, s)
	if got != want || s != numbered(int64(want.Code), want.N)+lettered(want.S) {
		h.t.Fatalf("Call(%d, %.200q) = %.200q; want %.200q", pid, frame, fmt.Sprint(got), fmt.Sprint(want))
	}
	h.check()
	return got
}

// frame is the same, and demands that a reply with an error has changed nothing.
func (h *whole) frame(pid int, frame string) api.Reply {
	h.t.Helper()
	before := h.states()
	got := h.loose(pid, frame)
	if got.Code != 0 && (got.N != 0 || got.S != "" || h.states() != before) {
		h.t.Fatalf("Call(%d, %.200q) tells %d, with %d, %q, or has changed something", pid, frame, got.Code, got.N, got.S)
	}
	return got
}

// call makes a kernel call that has numbers alone.
func (h *whole) call(pid, no int, n ...int64) api.Reply {
	h.t.Helper()
	c := api.Call{No: no}
	copy(c.N[:], n)
	return h.frame(pid, frameOf(c))
}

// with makes a kernel call that has texts, and numbers behind them.
func (h *whole) with(pid, no int, s []string, n ...int64) api.Reply {
	h.t.Helper()
	c := api.Call{No: no}
	copy(c.S[:], s)
	copy(c.N[:], n)
	return h.frame(pid, frameOf(c))
}

// direct makes a call on one service of the kernel, beside the kernel itself; the twins must answer alike.
func (h *whole) direct(pid, no int, n ...int64) api.Reply {
	h.t.Helper()
	c := api.Call{No: no}
	copy(c.N[:], n)
	kind := routeOf(no)
	got, want := h.k.Service(kind).Do(pid, c), ask(kind, h.w[kind], pid, c)
	if got != want {
		h.t.Fatalf("Do(%d, %s) = %v; want %v", pid, show(c), got, want)
	}
	h.check()
	return got
}
