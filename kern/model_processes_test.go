package kern_test

import (
	"cmp"
	"math"
	"slices"

	"hayward/api"
)

// member is a process, running or ended; since says when it has become the last one of its level.
type member struct {
	api.Proc
	load  float64
	since int
}

// procTwin has at each number its process, or nil. It keeps no order: it finds who is before whom anew.
type procTwin struct {
	at   []*member // from 0, where there is none, to the greatest number that a process may have
	time int
}

func newProcTwin(c api.Caps) *procTwin {
	m := &procTwin{at: make([]*member, c.Procs+1)}
	m.put(1, 0, 0)
	return m
}

// put makes a process that runs.
func (m *procTwin) put(pid, parent int, nice int64) {
	m.at[pid] = &member{Proc: api.Proc{Pid: pid, Parent: parent, State: 1, Nice: int(nice)}}
	m.last(m.at[pid])
}

// last makes a process the last one of its level.
func (m *procTwin) last(x *member) {
	m.time++
	x.since = m.time
}

// level counts the levels that end below a nice value.
func level(nice int) int {
	n := 0
	for _, first := range []int{-12, -4, 4, 12} {
		if nice >= first {
			n++
		}
	}
	return n
}

// get is the process that runs under a number.
func (m *procTwin) get(pid int64) *member {
	if pid < 1 || pid >= int64(len(m.at)) || m.at[pid] == nil || m.at[pid].State != 1 {
		return nil
	}
	return m.at[pid]
}

func (m *procTwin) has(pid int) bool { return m.get(int64(pid)) != nil }

// running are all that run: by their numbers.
func (m *procTwin) running() []*member {
	return slices.DeleteFunc(slices.Clone(m.at), func(x *member) bool { return x == nil || x.State != 1 })
}

// ready are they in the queue's order.
func (m *procTwin) ready() []*member {
	l := m.running()
	slices.SortFunc(l, func(a, b *member) int {
		return cmp.Or(cmp.Compare(level(a.Nice), level(b.Nice)), cmp.Compare(a.since, b.since))
	})
	return l
}

// kids are a process's children, by their numbers.
func (m *procTwin) kids(pid int) []*member {
	return slices.DeleteFunc(slices.Clone(m.at), func(x *member) bool { return x == nil || x.Parent != pid })
}

func isNice(nice int64) bool { return -20 <= nice && nice <= 19 }

func (m *procTwin) spawn(pid int, nice int64) (int64, string, api.Errno) {
	if !isNice(nice) {
		return 0, "", api.ErrArg
	}
	child := slices.Index(m.at[1:], nil) + 1
	if child == 0 {
		return 0, "", api.ErrAgain
	}
	m.put(child, pid, nice)
	return int64(child), "", 0
}

func (m *procTwin) wait(pid int, child int64) (int64, string, api.Errno) {
	kids := m.kids(pid)
	if child != 0 {
		kids = slices.DeleteFunc(kids, func(x *member) bool { return int64(x.Pid) != child })
	}
	switch {
	case child < 0:
		return 0, "", api.ErrArg
	case len(kids) == 0:
		return 0, "", api.ErrChild
	}
	for _, x := range kids {
		if x.State == 2 {
			m.at[x.Pid] = nil
			return int64(x.Pid), numbered(int64(x.Code)), 0
		}
	}
	return 0, "", api.ErrAgain
}

func (m *procTwin) nice(pid, nice int64) api.Errno {
	x := m.get(pid)
	switch {
	case x == nil:
		return api.ErrSrch
	case !isNice(nice):
		return api.ErrArg
	}
	before := level(x.Nice)
	x.Nice = int(nice)
	if level(x.Nice) != before {
		m.last(x)
	}
	return 0
}

func (m *procTwin) undo(pid int64) api.Errno {
	switch {
	case m.get(pid) == nil:
		return api.ErrSrch
	case pid == 1, len(m.kids(int(pid))) > 0:
		return api.ErrPerm
	}
	m.at[pid] = nil
	return 0
}

func (m *procTwin) exit(pid int, code int64) api.Errno {
	if pid == 1 {
		return api.ErrPerm
	}
	for _, x := range m.kids(pid) {
		x.Parent = 1
	}
	m.at[pid].State, m.at[pid].Code = 2, int(code)
	return 0
}

// next is what CNext answers; process 1 is always ready.
func (m *procTwin) next() int64 {
	x := m.ready()[0]
	m.last(x)
	for _, y := range m.running() {
		y.load = float64(y.load / 2)
		if x == y {
			y.load += 0.5
		}
	}
	return int64(x.Pid)
}

func (m *procTwin) perform(pid int, c api.Call) (int64, string, api.Errno) {
	switch c.No {
	case 22:
		return m.wait(pid, c.N[0])
	case 23:
		return 0, "", m.nice(c.N[0], c.N[1])
	case 24:
		if x := m.get(c.N[0]); x != nil {
			return int64(math.Float64bits(x.load)), "", 0
		}
		return 0, "", api.ErrSrch
	case 25:
		return m.next(), "", 0
	case 105:
		return m.spawn(pid, c.N[0])
	case 106:
		return 0, "", m.undo(c.N[0])
	}
	return 0, "", m.exit(pid, c.N[0])
}

func (m *procTwin) state() string {
	var out text
	for _, x := range m.at {
		if x != nil {
			out.line("q", x.Pid, x.Parent, x.State, x.Code, x.Nice)
		}
	}
	for _, x := range m.ready() {
		out.line("y", x.Pid)
	}
	for _, x := range m.running() {
		out.line("o", x.Pid, math.Float64bits(x.load))
	}
	return out.String()
}
