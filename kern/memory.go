package kern

import (
	"maps"
	"slices"

	"hayward/api"
	"hayward/frame"
	"hayward/space"
)

// memory is the body of the service SMem. Its processes are those that have a space.
type memory struct {
	pool   *frame.Pool
	spaces map[int]*space.Space
}

// newMemory has the process 1, or panics.
func newMemory(c api.Caps) *memory {
	m := &memory{value(frame.New(c.Frames)), map[int]*space.Space{}}
	m.create(first) // without a frame for it process 1 has no space, which is no error here
	return m
}

func (m *memory) has(pid int) bool {
	return m.spaces[pid] != nil
}

// create gives a process a space.
func (m *memory) create(pid int) api.Errno {
	switch {
	case pid < 1:
		return api.ErrArg
	case m.has(pid):
		return api.ErrExist
	}
	s, e := space.New(m.pool)
	if e != api.OK {
		return e
	}
	m.spaces[pid] = s
	return api.OK
}

func (m *memory) perform(pid int, c api.Call) api.Reply {
	s, a, b := m.spaces[pid], uint64(c.N[0]), uint64(c.N[1])
	switch c.No {
	case api.CMmap:
		if huge := c.N[2]; huge != 0 && huge != 1 {
			panic(api.ErrArg)
		}
		return number(s.Mmap(a, int(c.N[1]), c.N[2] == 1))
	case api.CMunmap:
		return done(s.Munmap(a, b))
	case api.CMprotect:
		return done(s.Mprotect(a, b, int(c.N[2])))
	case api.CBrk:
		return number(s.Brk(int(c.N[0])))
	case api.CWalk:
		return number(s.Walk(a, int(c.N[1])))
	case api.KSpace:
		return done(m.create(pid))
	case api.KDropM:
		must(s.Drop())
		delete(m.spaces, pid)
		return api.Reply{}
	}
	panic(api.ErrNoSys)
}

func (m *memory) tell(l *lines) {
	l.add("l", int64(m.pool.Left()))
	for _, pid := range slices.Sorted(maps.Keys(m.spaces)) {
		l.add("m", int64(pid))
		for _, r := range m.spaces[pid].Regions() {
			l.add("r", int64(r.From), int64(r.To), int64(r.Perm), int64(r.Kind))
		}
		for _, p := range m.spaces[pid].Pages() {
			l.add("g", int64(p.Va), int64(p.Frame))
		}
	}
}
