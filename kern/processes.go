package kern

import (
	"math"

	"hayward/api"
	"hayward/proc"
	"hayward/sched"
)

// processes is the body of the service SProc. The queue has the processes of the table that run.
type processes struct {
	table *proc.Table
	queue *sched.Queue
}

// newProcesses has the process 1, or panics.
func newProcesses(c api.Caps) *processes {
	p := &processes{value(proc.New(c.Procs)), sched.New()}
	must(p.queue.Add(first, 0))
	return p
}

func (p *processes) has(pid int) bool {
	x, ok := p.table.Get(pid)
	return ok && x.State == api.PRun
}

func (p *processes) perform(pid int, c api.Call) api.Reply {
	n := int(c.N[0])
	switch c.No {
	case api.CWait:
		return reaped(p.table.Wait(pid, n))
	case api.CNice:
		must(p.table.Nice(n, int(c.N[1])))
		return done(p.queue.Nice(n, int(c.N[1])))
	case api.CLoad:
		return number(bits(p.queue.Load(n)))
	case api.CNext:
		return number(p.queue.Next())
	case api.KSpawn:
		child := value(p.table.Spawn(pid, n))
		must(p.queue.Add(child, n))
		return api.Reply{N: int64(child)}
	case api.KUndo:
		must(p.table.Undo(n))
		return done(p.queue.Remove(n))
	case api.KExit:
		must(p.table.Exit(pid, n))
		return done(p.queue.Remove(pid))
	}
	panic(api.ErrNoSys)
}

// reaped is the reply of CWait.
func reaped(x api.Proc, e api.Errno) api.Reply {
	must(e)
	return api.Reply{N: int64(x.Pid), S: encoded(int64(x.Code))}
}

// bits are the 64 of a load.
func bits(load float64, e api.Errno) (uint64, api.Errno) {
	return math.Float64bits(load), e
}

func (p *processes) tell(l *lines) {
	all := p.table.All()
	for _, x := range all {
		l.add("q", int64(x.Pid), int64(x.Parent), int64(x.State), int64(x.Code), int64(x.Nice))
	}
	for _, pid := range p.queue.Ready() {
		l.add("y", int64(pid))
	}
	for _, x := range all {
		if x.State != api.PRun {
			continue
		}
		load, _ := bits(p.queue.Load(x.Pid))
		l.add("o", int64(x.Pid), int64(load))
	}
}
