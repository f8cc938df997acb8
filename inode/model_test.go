package inode_test

import (
	"fmt"
	"maps"
	"math"
	"slices"
	"testing"

	"hayward/api"
	"hayward/inode"
)

const (
	full     = 1048576
	least    = math.MinInt64
	greatest = math.MaxInt64
)

// item is an inode of a model. Each byte that a file stores stands alone, by its offset.
type item struct {
	kind, links, opens int
	size               int64
	bytes              map[int64]byte
}

// model is a store without extents.
type model struct {
	caps  api.Caps
	items map[int]*item
}

// stored is how many bytes all files store together.
func (m *model) stored() int {
	n := 0
	for _, x := range m.items {
		n += len(x.bytes)
	}
	return n
}

// settle removes what has neither links nor opens.
func (m *model) settle() {
	maps.DeleteFunc(m.items, func(_ int, x *item) bool { return x.links+x.opens == 0 })
}

// make is P11.2.
func (m *model) make(kind int) (int, api.Errno) {
	if kind != 1 && kind != 2 {
		return 0, api.ErrArg
	}
	for n := 1; n <= m.caps.Inodes; n++ {
		if _, used := m.items[n]; !used {
			m.items[n] = &item{kind: kind, links: 1, bytes: map[int64]byte{}}
			return n, api.OK
		}
	}
	return 0, api.ErrNoSpc
}

// count is P11.3: one of the counts of an inode becomes more or less.
func (m *model) count(n int, what string) api.Errno {
	x, there := m.items[n]
	switch {
	case !there:
		return api.ErrNoEnt
	case what == "Link" && x.links == m.caps.Links:
		return api.ErrMLink
	case what == "Unlink" && x.links == 0, what == "Close" && x.opens == 0:
		return api.ErrArg
	}
	switch what {
	case "Link":
		x.links++
	case "Unlink":
		x.links--
	case "Open":
		x.opens++
	case "Close":
		x.opens--
	}
	m.settle()
	return api.OK
}

// file is the file n, if it is one.
func (m *model) file(n int) (*item, api.Errno) {
	x, there := m.items[n]
	if !there {
		return nil, api.ErrNoEnt
	}
	if x.kind != 1 {
		return nil, api.ErrIsDir
	}
	return x, api.OK
}

// read, write and trunc are P11.4, byte by byte.
func (m *model) read(n int, from, many int64) (string, api.Errno) {
	x, e := m.file(n)
	if e != api.OK {
		return "", e
	}
	if from < 0 || many < 0 {
		return "", api.ErrArg
	}
	if from >= x.size {
		return "", api.OK
	}
	b := make([]byte, min(many, x.size-from))
	for at, c := range x.bytes {
		if at >= from && at-from < int64(len(b)) {
			b[at-from] = c
		}
	}
	return string(b), api.OK
}

func (m *model) write(n int, from int64, data string) api.Errno {
	x, e := m.file(n)
	switch {
	case e != api.OK:
		return e
	case from < 0:
		return api.ErrArg
	case from > full || from+int64(len(data)) > full:
		return api.ErrFBig
	}
	more := 0
	for i := range len(data) {
		if _, there := x.bytes[from+int64(i)]; !there {
			more++
		}
	}
	if m.stored()+more > m.caps.Bytes {
		return api.ErrNoSpc
	}
	for i := range len(data) {
		at := from + int64(i)
		x.bytes[at] = data[i]
		x.size = max(x.size, at+1)
	}
	return api.OK
}

func (m *model) trunc(n int, size int64) api.Errno {
	x, e := m.file(n)
	switch {
	case e != api.OK:
		return e
	case size < 0:
		return api.ErrArg
	case size > full:
		return api.ErrFBig
	}
	maps.DeleteFunc(x.bytes, func(at int64, _ byte) bool { return at >= size })
	x.size = size
	return api.OK
}

// stat and all are P11.5.
func (m *model) stat(n int) (api.Stat, api.Errno) {
	x, there := m.items[n]
	if !there {
		return api.Stat{}, api.ErrNoEnt
	}
	return api.Stat{Ino: n, Kind: x.kind, Links: x.links, Opens: x.opens, Size: x.size, Stored: int64(len(x.bytes))}, api.OK
}

func (m *model) all() []api.Stat {
	var out []api.Stat
	for _, n := range slices.Sorted(maps.Keys(m.items)) {
		x, _ := m.stat(n)
		out = append(out, x)
	}
	return out
}

// brief is the beginning of some bytes, for messages.
func brief(s string) string {
	return fmt.Sprintf("%q of %d bytes", s[:min(len(s), 40)], len(s))
}

// held is a store beside its model: each call is made on both, and must be answered alike.
type held struct {
	t *testing.T
	s *inode.Store
	m *model
}

func hold(t *testing.T, inodes, bytes, links int) *held {
	t.Helper()
	c := api.Caps{Inodes: inodes, Bytes: bytes, Links: links}
	s, e := inode.New(c)
	if s == nil || e != api.OK {
		t.Fatalf("New(%+v) = %v, %d", c, s, e)
	}
	return &held{t, s, &model{c, map[int]*item{}}}
}

func (h *held) make(kind int) (int, api.Errno) {
	h.t.Helper()
	want, e := h.m.make(kind)
	if got, ge := h.s.Make(kind); got != want || ge != e {
		h.t.Fatalf("Make(%d) = %d, %d; want %d, %d", kind, got, ge, want, e)
	}
	return want, e
}

// counts are the calls of P11.3 by their names.
func counts(s *inode.Store) map[string]func(int) api.Errno {
	return map[string]func(int) api.Errno{"Link": s.Link, "Unlink": s.Unlink, "Open": s.Open, "Close": s.Close}
}

// names are those of counts, in a fixed order.
var names = []string{"Link", "Unlink", "Open", "Close"}

func (h *held) count(n int, what string) api.Errno {
	h.t.Helper()
	want := h.m.count(n, what)
	if e := counts(h.s)[what](n); e != want {
		h.t.Fatalf("%s(%d) = %d; want %d", what, n, e, want)
	}
	return want
}

func (h *held) read(n int, from, many int64) (string, api.Errno) {
	h.t.Helper()
	want, e := h.m.read(n, from, many)
	if got, ge := h.s.Read(n, from, many); got != want || ge != e {
		h.t.Fatalf("Read(%d, %d, %d) = %s, %d; want %s, %d", n, from, many, brief(got), ge, brief(want), e)
	}
	return want, e
}

func (h *held) write(n int, from int64, data string) api.Errno {
	h.t.Helper()
	want := h.m.write(n, from, data)
	if e := h.s.Write(n, from, data); e != want {
		h.t.Fatalf("Write(%d, %d, %s) = %d; want %d", n, from, brief(data), e, want)
	}
	return want
}

func (h *held) trunc(n int, size int64) api.Errno {
	h.t.Helper()
	want := h.m.trunc(n, size)
	if e := h.s.Trunc(n, size); e != want {
		h.t.Fatalf("Trunc(%d, %d) = %d; want %d", n, size, e, want)
	}
	return want
}

// check holds all that can be seen of the store against the model, of long files the two ends; and P11.6.
func (h *held) check() {
	h.t.Helper()
	all := h.s.All()
	if want := h.m.all(); !slices.Equal(all, want) {
		h.t.Fatalf("All() = %+v; want %+v", all, want)
	}
	for n := -1; n <= h.m.caps.Inodes+2; n++ {
		want, e := h.m.stat(n)
		if got, ge := h.s.Stat(n); got != want || ge != e {
			h.t.Fatalf("Stat(%d) = %+v, %d; want %+v, %d", n, got, ge, want, e)
		}
	}
	stored := int64(0)
	for _, x := range all {
		stored += x.Stored
		if x.Links == 0 && x.Opens == 0 {
			h.t.Fatalf("inode %d has neither a link nor an open", x.Ino)
		}
		if x.Kind == api.KFile {
			h.read(x.Ino, 0, 400)
			h.read(x.Ino, max(0, x.Size-50), full)
		}
	}
	if stored > int64(h.m.caps.Bytes) {
		h.t.Fatalf("%d bytes are stored; at most %d may be", stored, h.m.caps.Bytes)
	}
}

// whole is check, and holds all bytes of all files against the model.
func (h *held) whole() {
	h.t.Helper()
	h.check()
	for n := range h.m.items {
		h.read(n, 0, full)
	}
}

// must holds an answer against what the test itself says.
func (h *held) must(got, want api.Errno) {
	h.t.Helper()
	if got != want {
		h.t.Fatalf("the answer is %d; want %d", got, want)
	}
}

// made makes an inode that must become number n.
func (h *held) made(kind, n int) {
	h.t.Helper()
	if got, e := h.make(kind); got != n || e != api.OK {
		h.t.Fatalf("Make(%d) = %d, %d; want %d", kind, got, e, n)
	}
}

// done makes calls of P11.3 that must be answered OK.
func (h *held) done(n int, calls ...string) {
	h.t.Helper()
	for _, what := range calls {
		h.must(h.count(n, what), api.OK)
	}
}

// is demands what Stat answers, by numbers of the test itself.
func (h *held) is(n, kind, links, opens int, size, stored int64) {
	h.t.Helper()
	want := api.Stat{Ino: n, Kind: kind, Links: links, Opens: opens, Size: size, Stored: stored}
	if got, e := h.s.Stat(n); got != want || e != api.OK {
		h.t.Fatalf("Stat(%d) = %+v, %d; want %+v", n, got, e, want)
	}
}

// isGone demands that there is no inode n.
func (h *held) isGone(n int) {
	h.t.Helper()
	if got, e := h.s.Stat(n); got != (api.Stat{}) || e != api.ErrNoEnt {
		h.t.Fatalf("Stat(%d) = %+v, %d; want ErrNoEnt", n, got, e)
	}
}

// reads demands what Read answers, by bytes of the test itself.
func (h *held) reads(n int, from, many int64, want string) {
	h.t.Helper()
	if got, e := h.read(n, from, many); got != want || e != api.OK {
		h.t.Fatalf("Read(%d, %d, %d) = %s, %d; want %s", n, from, many, brief(got), e, brief(want))
	}
}
