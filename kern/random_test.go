package kern_test

import (
	"math/rand"
	"strconv"
	"strings"
	"testing"

	"hayward/api"
)

// tally counts the answers to each call.
type tally map[int]map[api.Errno]int

func (l tally) add(no int, e api.Errno) {
	if l[no] == nil {
		l[no] = map[api.Errno]int{}
	}
	l[no][e]++
}

// enough demands that each of the numbers was answered OK, and by each of the errors, at least so often.
func (l tally) enough(t *testing.T, least int, no int, errors ...api.Errno) {
	t.Helper()
	for _, e := range append(errors, api.OK) {
		if l[no][e] < least {
			t.Errorf("call %d was answered %d only %d times: %v", no, e, l[no][e], l[no])
		}
	}
}

// kernelCall is a call that a kernel's frame may hold.
func kernelCall(r *rand.Rand) api.Call {
	switch n := r.Intn(20); {
	case n < 8:
		return clean(fileCall(r))
	case n < 12:
		return clean(memCall(r))
	case n < 17:
		return clean(procCall(r, 6))
	case n < 18:
		return api.Call{No: api.CSpawn, N: [3]int64{int64(r.Intn(42) - 21)}}
	}
	return api.Call{No: api.CExit, N: [3]int64{int64(r.Intn(9) - 4)}}
}

// clean has nothing in the elements that its shape doesn't use.
func clean(c api.Call) api.Call {
	out, ns, ss := api.Call{No: c.No}, 0, 0
	for _, letter := range shapes[c.No] {
		if letter == 'n' {
			out.N[ns] = c.N[ns]
			ns++
		} else {
			out.S[ss] = c.S[ss]
			ss++
		}
	}
	return out
}

// roomy are capacities that random calls reach now and then.
var roomy = api.Caps{Inodes: 12, Bytes: 60, Links: 3, Files: 4, Opens: 6, Procs: 6, Frames: 1300}

// P17.3, P17.4: long runs of kernel calls by all processes, and by some that aren't there, each of them beside the twins.
func TestRandomKernel(t *testing.T) {
	seen := tally{}
	for seed := range int64(10) {
		r := rand.New(rand.NewSource(seed))
		c := roomy
		c.Frames = []int{1300, 60, 25, 600}[seed%4]
		h := holdAll(t, c)
		for range 2500 {
			c := kernelCall(r)
			if c.No == api.CExit && r.Intn(3) > 0 {
				continue
			}
			seen.add(c.No, h.frame(pidFor(r), frameOf(c)).Code)
			h.apart()
		}
	}
	for no := 1; no <= 25; no++ {
		seen.enough(t, 15, no, api.ErrSrch)
	}
	for no, l := range map[int][]api.Errno{
		1: {2, 11, 13, 14, 22, 23}, 2: {16}, 3: {16, 22}, 4: {16}, 5: {16, 21}, 6: {2, 16}, 7: {16}, 8: {16},
		9: {11, 12, 13}, 10: {2, 11, 15}, 11: {11, 12, 27}, 12: {11, 14}, 13: {2, 11}, 14: {11, 13},
		15: {2, 24}, 16: {2}, 17: {2, 103}, 18: {2}, 19: {26, 27}, 20: {2, 24, 25}, 21: {27}, 22: {20, 25}, 23: {2}, 24: {},
	} {
		seen.enough(t, 3, no, l...)
	}
}

// pidFor is mostly a number that a process may have.
func pidFor(r *rand.Rand) int {
	switch r.Intn(12) {
	case 0:
		return strangePids[r.Intn(len(strangePids))]
	case 1, 2, 3, 4:
		return 1
	}
	return 1 + r.Intn(7)
}

// words are a state's, line by line.
func words(state string) [][]string {
	var out [][]string
	for l := range strings.Lines(state) {
		out = append(out, strings.Fields(l))
	}
	return out
}

// number is a word's.
func number(word string) int {
	n, e := strconv.Atoi(word)
	if e != nil {
		panic(e)
	}
	return n
}

// apart demands of the states, without the twins, that only processes that run have descriptors or a space, and that each frame is free, or in one page, or may be in a table.
func (h *whole) apart() {
	h.t.Helper()
	states := h.states()
	runs := map[string]bool{}
	for _, l := range words(states[2]) {
		if l[0] == "q" {
			runs[l[1]] = l[3] == "1"
		}
	}
	left, used := 0, map[int]bool{}
	huge := map[int]bool{} // the first addresses of the huge pages of a process
	for _, l := range words(states[0] + states[1]) {
		switch l[0] {
		case "p", "m":
			if !runs[l[1]] {
				h.t.Fatalf("process %s doesn't run, but is in line %q", l[1], l)
			}
			huge = map[int]bool{}
		case "l":
			left = number(l[1])
		case "r":
			for at := number(l[1]); l[4] == "1" && at < number(l[2]); at += int(big) {
				huge[at] = true
			}
		case "g":
			size := 1
			if huge[number(l[1])] {
				size = 512
			}
			for i := range size {
				f := number(l[2]) + i
				if used[f] || f < 0 || f >= h.frames() {
					h.t.Fatalf("frame %d is in two pages, or is none", f)
				}
				used[f] = true
			}
		}
	}
	if len(used)+left >= h.frames() { // process 1 has a table at least
		h.t.Fatalf("of %d frames %d are in pages, and %d are left", h.frames(), len(used), left)
	}
}

// frames is how many frames there are.
func (h *whole) frames() int { return len(h.w[2].(*memTwin).taken) }

// P17.1, P17.4: long runs on each service by itself, with the calls that only a kernel makes among them.
func TestRandomServices(t *testing.T) {
	seen := tally{}
	for kind := 1; kind <= 3; kind++ {
		for seed := range int64(6) {
			r := rand.New(rand.NewSource(100*int64(kind) + seed))
			c := roomy
			c.Frames = []int{1300, 30, 60}[seed%3]
			h := hold(t, kind, c)
			for range 2500 {
				c := directCall(r, kind)
				pid := pidFor(r)
				if c.No == api.KDropF || c.No == api.KDropM || c.No == api.KExit { // process 1 stays, so that there is always one
					pid = 2 + r.Intn(6)
				}
				seen.add(c.No, h.do(pid, c).Code)
			}
		}
	}
	for no, l := range map[int][]api.Errno{101: {2, 12, 19}, 102: {19}, 103: {2, 12, 24}, 104: {19}, 105: {2, 19, 25}, 106: {19, 27}, 107: {19}} {
		seen.enough(t, 20, no, l...)
	}
}

// directCall is a call of a service, with anything in the elements that it doesn't use.
func directCall(r *rand.Rand, kind int) api.Call {
	c := api.Call{N: [3]int64{[]int64{int64(r.Intn(9) - 1), int64(r.Intn(9) - 1), int64(r.Intn(50) - 25)}[r.Intn(3)], odd(r), odd(r)}, S: [2]string{"a", "\x00"}}
	own := r.Intn(8) > 0
	switch {
	case kind == 1 && own:
		return fileCall(r)
	case kind == 2 && own:
		return memCall(r)
	case kind == 3 && own:
		return procCall(r, 6)
	}
	l := [][]int{{}, {101, 101, 101, 101, 102}, {103, 103, 104}, {105, 105, 105, 106, 107}}[kind]
	c.No = l[r.Intn(len(l))]
	return c
}
