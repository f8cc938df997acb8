package kern_test

import (
	"fmt"
	"testing"

	"hayward/api"
	"hayward/kern"
)

// lived is a service with processes 1 and 2 that have done something, and 3, which has ended or was dropped.
func lived(t *testing.T, kind int) *held {
	t.Helper()
	h := hold(t, kind, api.Caps{Inodes: 8, Bytes: 100, Links: 3, Files: 4, Opens: 8, Procs: 6, Frames: 1100})
	switch kind {
	case 1:
		h.with(1, api.COpen, []string{"f"}, 7)
		h.with(1, api.CWrite, []string{"abcdef"}, 0)
		h.with(1, api.COpen, []string{"g"}, 6)
		h.call(1, api.CSeek, 0, 2, 0)
		h.with(1, api.CMkdir, []string{"d"})
		h.with(1, api.CMkdir, []string{"d/e"})
		h.with(1, api.CLink, []string{"f", "d/h"})
		h.call(1, api.KClone, 2)
		h.call(1, api.KClone, 3)
		h.call(3, api.KDropF)
	case 2:
		h.call(1, api.CMmap, 9000, 3, 0)
		h.call(1, api.CMmap, 1, 1, 1)
		h.call(1, api.CBrk, 2)
		h.call(2, api.KSpace)
		h.call(2, api.CMmap, 1, 5, 0)
		h.call(3, api.KSpace)
		h.call(3, api.KDropM)
	case 3:
		h.call(1, api.KSpawn, 0)
		h.call(1, api.KSpawn, 5)
		h.call(2, api.KSpawn, -20)
		h.call(1, api.CNext)
		h.call(1, api.CNext)
		h.call(3, api.KExit, 9)
	}
	return h
}

// arguments are some of calls: those that some call takes, and those that none does.
func arguments() []api.Call {
	return []api.Call{
		{},
		{N: [3]int64{0, 3, 1}, S: [2]string{"d", "x"}},
		{N: [3]int64{3, 1, 0}, S: [2]string{"f", "d"}},
		{N: [3]int64{65536, 4096, 1}, S: [2]string{"d/e", "d/e/k"}},
		{N: [3]int64{5000, 3, 0}, S: [2]string{"d/h", "k"}},
		{N: [3]int64{2, -5, 2}, S: [2]string{"/", "/"}},
		{N: [3]int64{7, 19, 0}, S: [2]string{"new", "d/new"}},
		{N: [3]int64{least, greatest, -1}, S: [2]string{"\x00", "f"}},
		{N: [3]int64{-1, -1, -1}, S: [2]string{"d/..", "."}},
	}
}

// P17.1: each number with each service, for processes that are there, are not, have ended, and can't be: beside the twin, which says ErrNoSys first, and then ErrSrch.
func TestEachNumberForEachProcess(t *testing.T) {
	pids := append([]int{1, 2, 3, 4, 5, 6}, strangePids...)
	for kind := 1; kind <= 3; kind++ {
		for _, no := range numbers() {
			if routeOf(no) != kind {
				notItsOwn(t, kind, no, pids)
				continue
			}
			for i, c := range arguments() {
				c.No = no
				for _, pid := range pids {
					h := lived(t, kind)
					r := h.do(pid, c)
					if i == 0 && pid == 77 && no != api.KSpace && r.Code != api.ErrSrch {
						t.Errorf("Do(%d, %s) = %v", pid, show(c), r)
					}
				}
			}
		}
	}
}

// notItsOwn demands that a service refuses a number, whoever calls.
func notItsOwn(t *testing.T, kind, no int, pids []int) {
	t.Helper()
	s := lived(t, kind).s
	before := s.State()
	for _, c := range arguments() {
		c.No = no
		for _, pid := range pids {
			refused(t, s.Do(pid, c), api.ErrNoSys)
		}
	}
	if s.State() != before {
		t.Fatalf("service %d has changed by calls %d: %s", kind, no, differ(s.State(), before))
	}
}

// kernShapes are the shapes of the calls that only a kernel makes.
var kernShapes = map[int]string{101: "n", 102: "", 103: "", 104: "", 105: "n", 106: "n", 107: "n"}

// P17.1: whatever stands in the elements that a call doesn't use, the reply is the same, and so is what it does.
func TestUnusedElements(t *testing.T) {
	seen := map[api.Errno]int{}
	for kind := 1; kind <= 3; kind++ {
		for _, no := range numbersOf[kind] {
			shape, ok := kernShapes[no]
			if !ok {
				shape = shapes[no]
			}
			for _, c := range arguments() {
				c.No = no
				clean, junk := c, c
				ns, ss := 0, 0
				for _, letter := range shape {
					if letter == 'n' {
						ns++
					} else {
						ss++
					}
				}
				for i := ns; i < 3; i++ {
					clean.N[i], junk.N[i] = 0, []int64{5, -1, least}[i]
				}
				for i := ss; i < 2; i++ {
					clean.S[i], junk.S[i] = "", []string{"f", "\x00\xff"}[i]
				}
				for _, pid := range []int{1, 2, 9} {
					a, b := lived(t, kind), lived(t, kind)
					x, y := a.do(pid, clean), b.do(pid, junk)
					if x != y || a.s.State() != b.s.State() {
						t.Fatalf("Do(%d, %s) = %v, and %s = %v", pid, show(clean), x, show(junk), y)
					}
					seen[x.Code]++
				}
			}
		}
	}
	if seen[api.OK] < 100 || len(seen) < 8 {
		t.Errorf("the answers: %v", seen)
	}
}

// R4: what a call answers, and what the state is, hangs on the calls alone, and State itself changes nothing.
func TestSameCallsSameStates(t *testing.T) {
	for kind := 1; kind <= 3; kind++ {
		a, b := lived(t, kind).s, lived(t, kind).s
		for range 20 {
			if a.State() != b.State() || a.State() != a.State() {
				t.Fatalf("two services of kind %d differ: %s", kind, differ(a.State(), b.State()))
			}
			c := api.Call{No: []int{0, api.CDup, api.CBrk, api.CNext}[kind]}
			if x, y := a.Do(1, c), b.Do(1, c); x != y {
				t.Fatalf("%v and %v", x, y)
			}
		}
	}
}

// P17.1: the states of services in which nothing has happened, written out.
func TestStatesOfNew(t *testing.T) {
	for kind, w := range map[int]string{
		1: "i 1 2 1 0 0 0\np 1\n",
		2: "l 39\nm 1\n",
		3: "q 1 0 1 0 0\ny 1\no 1 0\n",
	} {
		s, e := kern.NewService(kind, some)
		if e != api.OK || s.State() != w {
			t.Errorf("the state of the new service %d is %q; want %q", kind, s.State(), w)
		}
	}
}

// P17.1: the states of services in which much has happened, written out.
func TestStatesWrittenOut(t *testing.T) {
	h := lived(t, 1)
	h.call(1, api.CSeek, 1, 3, 0)
	h.with(1, api.CWrite, []string{"\xff\x00\x01"}, 1)
	h.call(1, api.CDup, 0)
	h.with(1, api.CUnlink, []string{"g"})
	h.with(1, api.CMkdir, []string{"D\xfe"})
	sum := 1*'a' + 2*'b' + 3*'c' + 4*'d' + 5*'e' + 6*'f'
	wantState(t, h, "i 1 2 1 0 0 0\n"+
		"i 2 1 2 1 6 6\n"+fmt.Sprintf("c 2 %d\n", sum)+
		"i 3 1 0 1 6 3\n"+fmt.Sprintf("c 3 %d\n", 4*255+6)+
		"i 4 2 1 0 0 0\ni 5 2 1 0 0 0\ni 6 2 1 0 0 0\n"+
		"n 2f44fe 6\nn 2f64 4\nn 2f642f65 5\nn 2f642f68 2\nn 2f66 2\n"+
		"p 1\nf 0 2 2 7 3\nf 1 3 6 6 2\nf 2 2 2 7 3\n"+
		"p 2\nf 0 2 2 7 3\nf 1 3 6 6 2\n")
	h = lived(t, 2)
	h.call(1, api.CMprotect, 65536, 4096, 7)
	wantState(t, h, "l 571\nm 1\nr 65536 69632 7 0\nr 69632 77824 3 0\nr 2097152 4194304 1 1\nr 2199023255552 2199023263744 3 2\n"+
		"g 65536 1\ng 69632 5\ng 73728 6\ng 2097152 512\ng 2199023255552 7\ng 2199023259648 11\n"+
		"m 2\nr 65536 69632 5 0\ng 65536 13\n")
	h = lived(t, 3)
	h.call(2, api.CNice, 1, 11)
	wantState(t, h, "q 1 0 1 0 11\nq 2 1 1 0 0\nq 3 1 2 9 5\nq 4 2 1 0 -20\n"+
		"y 4\ny 2\ny 1\no 1 0\no 2 0\no 4 4604930618986332160\n") // 0.75 in its 64 bits
}

func wantState(t *testing.T, h *held, want string) {
	t.Helper()
	if got := h.s.State(); got != want {
		t.Errorf("the state of service %d has %s", h.kind, differ(got, want))
	}
}
