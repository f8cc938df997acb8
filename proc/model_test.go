package proc_test

import (
	"fmt"
	"math"
	"slices"
	"testing"

	"hayward/api"
	"hayward/proc"
)

const (
	least    = math.MinInt64
	greatest = math.MaxInt64
)

// model is a table as the chapter tells it: at each number its process, or the zero Proc. What is there is looked for anew by each call, from the lowest number up.
type model struct {
	at []api.Proc // from 0 to the greatest number that a process may have; at 0 there is none
}

func newModel(procs int) *model {
	m := &model{make([]api.Proc, procs+1)}
	m.at[1] = api.Proc{Pid: 1, State: 1}
	return m
}

// get is P14.6.
func (m *model) get(pid int) (api.Proc, bool) {
	if pid < 1 || pid >= len(m.at) || m.at[pid].Pid == 0 {
		return api.Proc{}, false
	}
	return m.at[pid], true
}

// runs says whether a process is there and runs.
func (m *model) runs(pid int) bool {
	p, ok := m.get(pid)
	return ok && p.State == 1
}

// all are all processes.
func (m *model) all() []api.Proc {
	var out []api.Proc
	for _, p := range m.at {
		if p.Pid != 0 {
			out = append(out, p)
		}
	}
	return out
}

// kids are the numbers of a process's children.
func (m *model) kids(parent int) []int {
	var out []int
	for _, p := range m.all() {
		if p.Parent == parent {
			out = append(out, p.Pid)
		}
	}
	return out
}

// spawn is P14.2.
func (m *model) spawn(parent, nice int) (int, api.Errno) {
	switch {
	case !m.runs(parent):
		return 0, api.ErrSrch
	case nice < -20, nice > 19:
		return 0, api.ErrArg
	}
	for pid := 1; pid < len(m.at); pid++ {
		if m.at[pid].Pid == 0 {
			m.at[pid] = api.Proc{Pid: pid, Parent: parent, State: 1, Nice: nice}
			return pid, api.OK
		}
	}
	return 0, api.ErrAgain
}

// exit is P14.3.
func (m *model) exit(pid, code int) api.Errno {
	switch {
	case !m.runs(pid):
		return api.ErrSrch
	case pid == 1:
		return api.ErrPerm
	}
	for _, kid := range m.kids(pid) {
		m.at[kid].Parent = 1
	}
	m.at[pid].State = 2
	m.at[pid].Code = code
	return api.OK
}

// wait is P14.4.
func (m *model) wait(parent, child int) (api.Proc, api.Errno) {
	switch {
	case !m.runs(parent):
		return api.Proc{}, api.ErrSrch
	case child < 0:
		return api.Proc{}, api.ErrArg
	}
	kids := m.kids(parent)
	if len(kids) == 0 || child != 0 && !slices.Contains(kids, child) {
		return api.Proc{}, api.ErrChild
	}
	for _, kid := range kids {
		if (child == 0 || child == kid) && m.at[kid].State == 2 {
			told := m.at[kid]
			m.at[kid] = api.Proc{}
			return told, api.OK
		}
	}
	return api.Proc{}, api.ErrAgain
}

// undo and nice are P14.5.
func (m *model) undo(pid int) api.Errno {
	switch {
	case !m.runs(pid):
		return api.ErrSrch
	case pid == 1, len(m.kids(pid)) > 0:
		return api.ErrPerm
	}
	m.at[pid] = api.Proc{}
	return api.OK
}

func (m *model) nice(pid, nice int) api.Errno {
	switch {
	case !m.runs(pid):
		return api.ErrSrch
	case nice < -20, nice > 19:
		return api.ErrArg
	}
	m.at[pid].Nice = nice
	return api.OK
}

// held is a table beside its model: each call is made on both, and must be answered alike.
type held struct {
	t *testing.T
	x *proc.Table
	m *model
}

func hold(t *testing.T, procs int) *held {
	t.Helper()
	x, e := proc.New(procs)
	if x == nil || e != api.OK {
		t.Fatalf("New(%d) = %v, %d", procs, x, e)
	}
	return &held{t, x, newModel(procs)}
}

// same demands that a call was answered as the model does.
func same[T comparable](h *held, got, want T, e, we api.Errno, call string, args ...any) (T, api.Errno) {
	h.t.Helper()
	if got != want || e != we {
		h.t.Fatalf(call+" = %+v, %d; want %+v, %d", append(args, got, e, want, we)...)
	}
	return want, we
}

func (h *held) spawn(parent, nice int) (int, api.Errno) {
	h.t.Helper()
	want, we := h.m.spawn(parent, nice)
	got, e := h.x.Spawn(parent, nice)
	return same(h, got, want, e, we, "Spawn(%d, %d)", parent, nice)
}

func (h *held) exit(pid, code int) api.Errno {
	h.t.Helper()
	_, e := same(h, 0, 0, h.x.Exit(pid, code), h.m.exit(pid, code), "Exit(%d, %d)", pid, code)
	return e
}

func (h *held) wait(parent, child int) (api.Proc, api.Errno) {
	h.t.Helper()
	want, we := h.m.wait(parent, child)
	got, e := h.x.Wait(parent, child)
	return same(h, got, want, e, we, "Wait(%d, %d)", parent, child)
}

func (h *held) undo(pid int) api.Errno {
	h.t.Helper()
	_, e := same(h, 0, 0, h.x.Undo(pid), h.m.undo(pid), "Undo(%d)", pid)
	return e
}

func (h *held) nice(pid, nice int) api.Errno {
	h.t.Helper()
	_, e := same(h, 0, 0, h.x.Nice(pid, nice), h.m.nice(pid, nice), "Nice(%d, %d)", pid, nice)
	return e
}

// must holds an answer against what the test itself says.
func (h *held) must(got, want api.Errno) {
	h.t.Helper()
	if got != want {
		h.t.Fatalf("the answer is %d; want %d", got, want)
	}
}

// check holds all that can be seen against the model.
func (h *held) check() {
	h.t.Helper()
	if got, want := h.x.All(), h.m.all(); !slices.Equal(got, want) {
		h.t.Fatalf("All() = %+v; want %+v", got, want)
	}
	for _, pid := range append([]int{-1, 0, len(h.m.at), 99999, least, greatest}, h.pids()...) {
		got, ok := h.x.Get(pid)
		if want, there := h.m.get(pid); got != want || ok != there {
			h.t.Fatalf("Get(%d) = %+v, %t; want %+v, %t", pid, got, ok, want, there)
		}
	}
}

// pids are all numbers that a process of the table may have.
func (h *held) pids() []int {
	var out []int
	for pid := range h.m.at[1:] {
		out = append(out, pid+1)
	}
	return out
}

// whole demands what P14.7 and the chapter's words say of every table, without the model.
func (h *held) whole() {
	h.t.Helper()
	state := map[int]int{0: api.PRun} // process 1's parent, which is no process
	for _, p := range h.x.All() {
		state[p.Pid] = p.State
	}
	last := 0
	for _, p := range h.x.All() {
		switch {
		case p.Pid <= last, p.Pid >= len(h.m.at):
			h.t.Fatalf("%+v stands behind process %d", p, last)
		case p.Pid == 1 && p.State != api.PRun, (p.Pid == 1) != (p.Parent == 0), p.Parent == p.Pid:
			h.t.Fatalf("%+v is there", p)
		case state[p.Parent] != api.PRun:
			h.t.Fatalf("the parent of %+v does not run", p)
		case p.State != api.PRun && p.State != api.PZombie, p.State == api.PRun && p.Code != 0, p.Nice < -20, p.Nice > 19:
			h.t.Fatalf("%+v is there", p)
		}
		last = p.Pid
	}
	if state[1] != api.PRun {
		h.t.Fatalf("process 1 is missing in %+v", h.x.All())
	}
}

// text tells the model apart from all others of its size.
func (m *model) text() string {
	return fmt.Sprint(m.all())
}
