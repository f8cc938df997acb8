package kern

import (
	"hayward/api"
	"hayward/wire"
)

// body is what a service of each kind is made of, and does in its own way.
type body interface {
	// has says whether a process is one of the service.
	has(pid int) bool
	// perform does a call whose number is one of the service's for a process, and panics with its error.
	perform(pid int, c api.Call) api.Reply
	// tell writes the service's state.
	tell(l *lines)
}

// Service is a part of a kernel.
type Service struct {
	kind int
	body body
}

// NewService is one of a kind, with the process 1. Whether the capacities are valid, the services of all kinds have to say.
func NewService(kind int, c api.Caps) (*Service, api.Errno) {
	k, e := New(c)
	if e != api.OK {
		return nil, e
	}
	s := k.Service(kind)
	if s.none() {
		return nil, api.ErrArg
	}
	return s, api.OK
}

// none says whether no call has returned s: a service that one has returned has a body.
func (s *Service) none() bool {
	return s == nil || s.body == nil
}

// execute does a call for a process, and panics with its error.
func (s *Service) execute(pid int, c api.Call) api.Reply {
	switch {
	case s.none():
		panic(api.ErrNil)
	case Route(c.No) != s.kind:
		panic(api.ErrNoSys)
	case c.No != api.KSpace && !s.body.has(pid): // it is KSpace that makes a process one of the service
		panic(api.ErrSrch)
	}
	return s.body.perform(pid, c)
}

// Do does a call for a process.
func (s *Service) Do(pid int, c api.Call) api.Reply {
	var r api.Reply
	if e := caught(func() { r = s.execute(pid, c) }); e != api.OK {
		return api.Reply{Code: e}
	}
	return r
}

// State tells all.
func (s *Service) State() string {
	if s.none() {
		return ""
	}
	var l lines
	s.body.tell(&l)
	return string(l)
}

// caught does the work, and answers the error with which that panics, if it does.
func caught(work func()) (e api.Errno) {
	defer func() {
		if x := recover(); x != nil {
			e = x.(api.Errno)
		}
	}()
	work()
	return api.OK
}

// must panics with an error, if it is one.
func must(e api.Errno) {
	if e != api.OK {
		panic(e)
	}
}

// value is what a call of a lower layer has answered beside its error.
func value[T any](v T, e api.Errno) T {
	must(e)
	return v
}

// done is the reply of a call that answers nothing but its error.
func done(e api.Errno) api.Reply {
	must(e)
	return api.Reply{}
}

// number is the reply of a call that answers a number; one without a sign keeps its 64 bits.
func number[T int | int64 | uint64](n T, e api.Errno) api.Reply {
	must(e)
	return api.Reply{N: int64(n)}
}

// encoded are numbers in the text of a reply, one behind the other.
func encoded(numbers ...int64) string {
	var out []byte
	for _, n := range numbers {
		out = wire.Number(out, uint64(n))
	}
	return string(out)
}
