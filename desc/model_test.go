package desc_test

import (
	"fmt"
	"maps"
	"math"
	"math/big"
	"slices"
	"strings"
	"testing"

	"hayward/api"
	"hayward/desc"
	"hayward/inode"
	"hayward/names"
)

const (
	full     = 1048576
	least    = math.MinInt64
	greatest = math.MaxInt64
)

// sound are all flags that are valid, written out.
var sound = []int{
	1, 5, 13,
	2, 6, 14, 18, 22, 30, 34, 38, 46, 50, 54, 62,
	3, 7, 15, 19, 23, 31, 35, 39, 47, 51, 55, 63,
}

// has says whether flags contain the bit.
func has(flags, bit int) bool {
	return flags/bit%2 == 1
}

// thing is a file or a directory of a model. Each byte that a file stores stands alone, by its offset. Links and opens are those beside its names and open files: tests make them by the store's own calls.
type thing struct {
	ino, kind    int
	size         int64
	bytes        map[int64]byte
	links, opens int
}

// share is an open file: all descriptors that refer to it have the same one.
type share struct {
	x      *thing
	offset int64
	flags  int
}

// model is a table with its tree and store that counts nothing along: whatever is counted, it counts out. It knows each name by its whole way from the root, as /d/f, and the root's is empty.
type model struct {
	caps   api.Caps
	things []*thing
	ways   map[string]*thing
	procs  map[int]map[int]*share
}

func newModel(c api.Caps) *model {
	root := &thing{ino: 1, kind: 2}
	return &model{c, []*thing{root}, map[string]*thing{"": root}, map[int]map[int]*share{}}
}

// shares are the open files, each with the number of its descriptors.
func (m *model) shares() map[*share]int {
	out := map[*share]int{}
	for _, fds := range m.procs {
		for _, f := range fds {
			out[f]++
		}
	}
	return out
}

// links and opens are how many a thing has.
func (m *model) links(x *thing) int {
	n := x.links
	for _, y := range m.ways {
		if x == y {
			n++
		}
	}
	return n
}

func (m *model) opens(x *thing) int {
	n := x.opens
	for f := range m.shares() {
		if f.x == x {
			n++
		}
	}
	return n
}

// stored is how many bytes all files store together.
func (m *model) stored() int {
	n := 0
	for _, x := range m.things {
		n += len(x.bytes)
	}
	return n
}

// sweep removes what has neither links nor opens.
func (m *model) sweep() {
	m.things = slices.DeleteFunc(m.things, func(x *thing) bool { return m.links(x)+m.opens(x) == 0 })
}

// by is the thing with that number.
func (m *model) by(ino int) *thing {
	for _, x := range m.things {
		if x.ino == ino {
			return x
		}
	}
	return nil
}

// fresh is a new thing under the lowest number that is not in use.
func (m *model) fresh(kind int) (*thing, api.Errno) {
	if len(m.things) == m.caps.Inodes {
		return nil, api.ErrNoSpc
	}
	x := &thing{ino: 1, kind: kind, bytes: map[int64]byte{}}
	for m.by(x.ino) != nil {
		x.ino++
	}
	m.things = append(m.things, x)
	return x, api.OK
}

// split reads a path: its parts, and whether it ends with a slash.
func split(p string) (parts []string, dir bool, e api.Errno) {
	switch {
	case len(p) == 0:
		return nil, false, api.ErrNoEnt
	case len(p) > 256:
		return nil, false, api.ErrNameLong
	case strings.Contains(p, "\x00"):
		return nil, false, api.ErrArg
	}
	for _, part := range strings.Split(p, "/") {
		if len(part) > 32 {
			return nil, false, api.ErrNameLong
		}
		if len(part) > 0 {
			parts = append(parts, part)
		}
	}
	return parts, strings.HasSuffix(p, "/"), api.OK
}

// above is the way of the directory that has the way's last name.
func above(way string) string {
	return way[:max(0, strings.LastIndex(way, "/"))]
}

// isDir says whether a way leads to a directory.
func (m *model) isDir(way string) bool {
	return m.ways[way] != nil && m.ways[way].kind == 2
}

// walk is the way to which parts lead.
func (m *model) walk(parts []string) (string, api.Errno) {
	way := ""
	for _, part := range parts {
		switch {
		case !m.isDir(way):
			return "", api.ErrNotDir
		case part == "..":
			way = above(way)
		case part != ".":
			way += "/" + part
			if m.ways[way] == nil {
				return "", api.ErrNoEnt
			}
		}
	}
	return way, api.OK
}

// find is the thing to which a path leads.
func (m *model) find(p string) (*thing, api.Errno) {
	parts, dir, e := split(p)
	if e != api.OK {
		return nil, e
	}
	way, e := m.walk(parts)
	if e == api.OK && dir && !m.isDir(way) {
		e = api.ErrNotDir
	}
	if e != api.OK {
		return nil, e
	}
	return m.ways[way], api.OK
}

// create makes a file where find has found nothing.
func (m *model) create(p string) (*thing, api.Errno) {
	parts, dir, e := split(p)
	if e != api.OK {
		return nil, e
	}
	last := len(parts) - 1
	way, e := m.walk(parts[:last])
	switch {
	case e != api.OK:
		return nil, e
	case dir:
		return nil, api.ErrIsDir
	}
	x, e := m.fresh(1)
	if e == api.OK {
		m.ways[way+"/"+parts[last]] = x
	}
	return x, e
}

// add, clone and drop are P13.2.
func (m *model) add(pid int) api.Errno {
	switch {
	case pid < 1:
		return api.ErrArg
	case m.procs[pid] != nil:
		return api.ErrExist
	}
	m.procs[pid] = map[int]*share{}
	return api.OK
}

func (m *model) clone(from, to int) api.Errno {
	switch {
	case m.procs[from] == nil:
		return api.ErrSrch
	case to < 1:
		return api.ErrArg
	case m.procs[to] != nil:
		return api.ErrExist
	}
	m.procs[to] = maps.Clone(m.procs[from])
	return api.OK
}

func (m *model) drop(pid int) api.Errno {
	if m.procs[pid] == nil {
		return api.ErrSrch
	}
	delete(m.procs, pid)
	m.sweep()
	return api.OK
}

// give lets the lowest descriptor that is unused refer to an open file.
func (m *model) give(pid int, f *share) int {
	fd := 0
	for m.procs[pid][fd] != nil {
		fd++
	}
	m.procs[pid][fd] = f
	return fd
}

// open is P13.3.
func (m *model) open(pid int, p string, flags int) (int, api.Errno) {
	switch {
	case m.procs[pid] == nil:
		return 0, api.ErrSrch
	case !slices.Contains(sound, flags):
		return 0, api.ErrArg
	case len(m.procs[pid]) == m.caps.Files:
		return 0, api.ErrMFile
	case len(m.shares()) == m.caps.Opens:
		return 0, api.ErrNFile
	}
	x, e := m.find(p)
	switch {
	case e == api.ErrNoEnt && has(flags, api.OCreate):
		if x, e = m.create(p); e != api.OK {
			return 0, e
		}
	case e != api.OK:
		return 0, e
	case has(flags, api.OExcl):
		return 0, api.ErrExist
	case x.kind == 2:
		return 0, api.ErrIsDir
	case has(flags, api.OTrunc):
		x.size, x.bytes = 0, map[int64]byte{}
	}
	return m.give(pid, &share{x, 0, flags}), api.OK
}

// at is the open file of a descriptor.
func (m *model) at(pid, fd int) (*share, api.Errno) {
	switch {
	case m.procs[pid] == nil:
		return nil, api.ErrSrch
	case m.procs[pid][fd] == nil:
		return nil, api.ErrBadF
	}
	return m.procs[pid][fd], api.OK
}

// close and dup are P13.4.
func (m *model) close(pid, fd int) api.Errno {
	_, e := m.at(pid, fd)
	if e == api.OK {
		delete(m.procs[pid], fd)
		m.sweep()
	}
	return e
}

func (m *model) dup(pid, fd int) (int, api.Errno) {
	f, e := m.at(pid, fd)
	if e != api.OK {
		return 0, e
	}
	if len(m.procs[pid]) == m.caps.Files {
		return 0, api.ErrMFile
	}
	return m.give(pid, f), api.OK
}

// read is the bytes of a file from an offset on.
func (x *thing) read(from, n int64) string {
	if from >= x.size {
		return ""
	}
	b := make([]byte, min(n, x.size-from))
	for at, c := range x.bytes {
		if at >= from && at-from < int64(len(b)) {
			b[at-from] = c
		}
	}
	return string(b)
}

// read and write are P13.5.
func (m *model) read(pid, fd int, n int64) (string, api.Errno) {
	f, e := m.at(pid, fd)
	switch {
	case e != api.OK:
		return "", e
	case !has(f.flags, api.ORead):
		return "", api.ErrBadF
	case n < 0:
		return "", api.ErrArg
	}
	data := f.x.read(f.offset, n)
	f.offset += int64(len(data))
	return data, api.OK
}

// store is P11.4 for bytes of a file.
func (m *model) store(x *thing, from int64, data string) api.Errno {
	if from+int64(len(data)) > full {
		return api.ErrFBig
	}
	more := 0
	for i := range len(data) {
		if _, there := x.bytes[from+int64(i)]; !there {
			more++
		}
	}
	if m.stored()+more > m.caps.Bytes {
		return api.ErrNoSpc
	}
	for i := range len(data) {
		at := from + int64(i)
		x.bytes[at] = data[i]
		x.size = max(x.size, at+1)
	}
	return api.OK
}

func (m *model) write(pid, fd int, data string) (int64, api.Errno) {
	f, e := m.at(pid, fd)
	switch {
	case e != api.OK:
		return 0, e
	case !has(f.flags, api.OWrite):
		return 0, api.ErrBadF
	}
	from := f.offset
	if has(f.flags, api.OAppend) {
		from = f.x.size
	}
	if e := m.store(f.x, from, data); e != api.OK {
		return 0, e
	}
	f.offset = from + int64(len(data))
	return int64(len(data)), api.OK
}

// seek, trunc and stat are P13.6.
func (m *model) seek(pid, fd int, by int64, whence int) (int64, api.Errno) {
	f, e := m.at(pid, fd)
	if e != api.OK {
		return 0, e
	}
	if whence < 0 || whence > 2 {
		return 0, api.ErrArg
	}
	sum := new(big.Int).Add(big.NewInt(by), big.NewInt([]int64{0, f.offset, f.x.size}[whence]))
	if sum.Sign() < 0 || sum.Cmp(big.NewInt(full)) > 0 {
		return 0, api.ErrArg
	}
	f.offset = sum.Int64()
	return f.offset, api.OK
}

// cut is P11.4 for a file's size.
func (x *thing) cut(size int64) api.Errno {
	switch {
	case size < 0:
		return api.ErrArg
	case size > full:
		return api.ErrFBig
	}
	maps.DeleteFunc(x.bytes, func(at int64, _ byte) bool { return at >= size })
	x.size = size
	return api.OK
}

func (m *model) trunc(pid, fd int, size int64) api.Errno {
	f, e := m.at(pid, fd)
	switch {
	case e != api.OK:
		return e
	case !has(f.flags, api.OWrite):
		return api.ErrBadF
	}
	return f.x.cut(size)
}

func (m *model) stat(pid, fd int) (api.Stat, api.Errno) {
	f, e := m.at(pid, fd)
	if e != api.OK {
		return api.Stat{}, e
	}
	return m.what(f.x), api.OK
}

// what is what a thing is.
func (m *model) what(x *thing) api.Stat {
	return api.Stat{Ino: x.ino, Kind: x.kind, Links: m.links(x), Opens: m.opens(x), Size: x.size, Stored: int64(len(x.bytes))}
}

func (m *model) all() []api.Stat {
	var out []api.Stat
	for _, x := range m.things {
		out = append(out, m.what(x))
	}
	slices.SortFunc(out, func(a, b api.Stat) int { return a.Ino - b.Ino })
	return out
}

// fds is P13.7.
func (m *model) fds(pid int) []api.Fd {
	shares := m.shares()
	var out []api.Fd
	for _, fd := range slices.Sorted(maps.Keys(m.procs[pid])) {
		f := m.procs[pid][fd]
		out = append(out, api.Fd{Fd: fd, Ino: f.x.ino, Offset: f.offset, Flags: f.flags, Refs: shares[f]})
	}
	return out
}

// under are the names of a directory.
func (m *model) under(way string) []api.Name {
	var out []api.Name
	for _, w := range slices.Sorted(maps.Keys(m.ways)) {
		if w != "" && above(w) == way {
			out = append(out, api.Name{Name: w[len(way)+1:], Ino: m.ways[w].ino, Kind: m.ways[w].kind})
		}
	}
	return out
}

// text tells the model apart from all others with the same capacities.
func (m *model) text() string {
	var out []string
	for _, way := range slices.Sorted(maps.Keys(m.ways)) {
		out = append(out, way, fmt.Sprint(m.ways[way].ino))
	}
	for _, x := range m.all() {
		y := m.by(x.Ino)
		out = append(out, fmt.Sprint(x, y.bytes, y.links, y.opens))
	}
	seen := map[*share]int{}
	for _, pid := range slices.Sorted(maps.Keys(m.procs)) {
		out = append(out, fmt.Sprint(" p", pid))
		for _, fd := range slices.Sorted(maps.Keys(m.procs[pid])) {
			f := m.procs[pid][fd]
			if seen[f] == 0 {
				seen[f] = len(seen) + 1
			}
			out = append(out, fmt.Sprint(" f", fd, seen[f], f.x.ino, f.offset, f.flags))
		}
	}
	return strings.Join(out, ",")
}

// held is a table, with its tree and store, beside its model: each call is made on both, and must be answered alike.
type held struct {
	t *testing.T
	s *inode.Store
	x *names.Tree
	d *desc.Table
	m *model
}

func hold(t *testing.T, c api.Caps) *held {
	t.Helper()
	s, e := inode.New(c)
	if e != api.OK {
		t.Fatalf("inode.New(%+v) tells %d", c, e)
	}
	x, e := names.New(s)
	if e != api.OK {
		t.Fatalf("names.New tells %d", e)
	}
	d, e := desc.New(s, x, c)
	if d == nil || e != api.OK {
		t.Fatalf("New(%+v) = %v, %d", c, d, e)
	}
	return &held{t, s, x, d, newModel(c)}
}

// caps are capacities of files and descriptors.
func caps(files, opens int) api.Caps {
	return api.Caps{Inodes: 12, Bytes: 40, Links: 3, Files: files, Opens: opens}
}

// same demands that a call was answered as the model does.
func same[T comparable](h *held, got, want T, e, we api.Errno, call string, args ...any) (T, api.Errno) {
	h.t.Helper()
	if got != want || e != we {
		h.t.Fatalf(call+" = %.80v, %d; want %.80v, %d", append(args, got, e, want, we)...)
	}
	return want, we
}

func (h *held) add(pid int) api.Errno {
	h.t.Helper()
	_, e := same(h, 0, 0, h.d.Add(pid), h.m.add(pid), "Add(%d)", pid)
	return e
}

func (h *held) clone(from, to int) api.Errno {
	h.t.Helper()
	_, e := same(h, 0, 0, h.d.Clone(from, to), h.m.clone(from, to), "Clone(%d, %d)", from, to)
	return e
}

func (h *held) drop(pid int) api.Errno {
	h.t.Helper()
	_, e := same(h, 0, 0, h.d.Drop(pid), h.m.drop(pid), "Drop(%d)", pid)
	return e
}

func (h *held) open(pid int, p string, flags int) (int, api.Errno) {
	h.t.Helper()
	want, we := h.m.open(pid, p, flags)
	got, e := h.d.Open(pid, p, flags)
	return same(h, got, want, e, we, "Open(%d, %q, %d)", pid, p, flags)
}

func (h *held) close(pid, fd int) api.Errno {
	h.t.Helper()
	_, e := same(h, 0, 0, h.d.Close(pid, fd), h.m.close(pid, fd), "Close(%d, %d)", pid, fd)
	return e
}

func (h *held) dup(pid, fd int) (int, api.Errno) {
	h.t.Helper()
	want, we := h.m.dup(pid, fd)
	got, e := h.d.Dup(pid, fd)
	return same(h, got, want, e, we, "Dup(%d, %d)", pid, fd)
}

func (h *held) read(pid, fd int, n int64) (string, api.Errno) {
	h.t.Helper()
	want, we := h.m.read(pid, fd, n)
	got, e := h.d.Read(pid, fd, n)
	return same(h, got, want, e, we, "Read(%d, %d, %d)", pid, fd, n)
}

func (h *held) write(pid, fd int, data string) (int64, api.Errno) {
	h.t.Helper()
	want, we := h.m.write(pid, fd, data)
	got, e := h.d.Write(pid, fd, data)
	return same(h, got, want, e, we, "Write(%d, %d, %.40q)", pid, fd, data)
}

func (h *held) seek(pid, fd int, by int64, whence int) (int64, api.Errno) {
	h.t.Helper()
	want, we := h.m.seek(pid, fd, by, whence)
	got, e := h.d.Seek(pid, fd, by, whence)
	return same(h, got, want, e, we, "Seek(%d, %d, %d, %d)", pid, fd, by, whence)
}

func (h *held) trunc(pid, fd int, size int64) api.Errno {
	h.t.Helper()
	_, e := same(h, 0, 0, h.d.Trunc(pid, fd, size), h.m.trunc(pid, fd, size), "Trunc(%d, %d, %d)", pid, fd, size)
	return e
}

func (h *held) stat(pid, fd int) (api.Stat, api.Errno) {
	h.t.Helper()
	want, we := h.m.stat(pid, fd)
	got, e := h.d.Stat(pid, fd)
	return same(h, got, want, e, we, "Stat(%d, %d)", pid, fd)
}

// must holds an answer against what the test itself says.
func (h *held) must(got, want api.Errno) {
	h.t.Helper()
	if got != want {
		h.t.Fatalf("the answer is %d; want %d", got, want)
	}
}

// The calls of names and inode that stand between those of the table. They are made only where they are answered OK: what else they answer is those layers' own.

// make makes a thing that has a way.
func (h *held) make(way string, kind int) int {
	h.t.Helper()
	x, e := h.m.fresh(kind)
	h.must(e, api.OK)
	h.m.ways[way] = x
	if n, e := h.x.Make(way, kind); n != x.ino || e != api.OK {
		h.t.Fatalf("Make(%q, %d) = %d, %d; want %d", way, kind, n, e, x.ino)
	}
	return x.ino
}

// link gives a file one more way.
func (h *held) link(old, way string) {
	h.t.Helper()
	h.m.ways[way] = h.m.ways[old]
	h.must(h.x.Link(old, way), api.OK)
}

// remove takes away a way, be it a file's or an empty directory's.
func (h *held) remove(way string) {
	h.t.Helper()
	call := h.x.Unlink
	if h.m.isDir(way) {
		call = h.x.Rmdir
	}
	delete(h.m.ways, way)
	h.m.sweep()
	h.must(call(way), api.OK)
}

// rename gives a thing another way, and with it all that lies below it.
func (h *held) rename(old, way string) {
	h.t.Helper()
	h.must(h.x.Rename(old, way), api.OK)
	if h.m.ways[old] == h.m.ways[way] {
		return
	}
	delete(h.m.ways, way)
	for _, w := range slices.Collect(maps.Keys(h.m.ways)) {
		if strings.HasPrefix(w+"/", old+"/") {
			h.m.ways[way+w[len(old):]] = h.m.ways[w]
			delete(h.m.ways, w)
		}
	}
	h.m.sweep()
}

// count changes a count of an inode by the store's own call.
func (h *held) count(ino int, what string) {
	h.t.Helper()
	x := h.m.by(ino)
	switch what {
	case "Link":
		x.links++
		h.must(h.s.Link(ino), api.OK)
	case "Unlink":
		x.links--
		h.must(h.s.Unlink(ino), api.OK)
	case "Open":
		x.opens++
		h.must(h.s.Open(ino), api.OK)
	case "Close":
		x.opens--
		h.must(h.s.Close(ino), api.OK)
	}
	h.m.sweep()
}

// store writes bytes by the store's own call.
func (h *held) store(ino int, from int64, data string) {
	h.t.Helper()
	h.must(h.s.Write(ino, from, data), h.m.store(h.m.by(ino), from, data))
}

// cut gives a file another size by the store's own call.
func (h *held) cut(ino int, size int64) {
	h.t.Helper()
	h.must(h.s.Trunc(ino, size), h.m.by(ino).cut(size))
}

// check holds all that can be seen against the model: inodes with their bytes, names, processes, descriptors.
func (h *held) check() {
	h.t.Helper()
	if got, want := h.s.All(), h.m.all(); !slices.Equal(got, want) {
		h.t.Fatalf("All() = %+v; want %+v", got, want)
	}
	for _, x := range h.m.things {
		if x.kind == 2 {
			continue
		}
		for _, from := range []int64{0, max(0, x.size-50)} {
			if got, e := h.s.Read(x.ino, from, 300); got != x.read(from, 300) || e != api.OK {
				h.t.Fatalf("inode %d has %.80q at %d, %d; want %.80q", x.ino, got, from, e, x.read(from, 300))
			}
		}
	}
	for way := range h.m.ways {
		if !h.m.isDir(way) {
			continue
		}
		if got, e := h.x.List(way + "/"); !slices.Equal(got, h.m.under(way)) || e != api.OK {
			h.t.Fatalf("List(%q) = %v, %d; want %v", way, got, e, h.m.under(way))
		}
	}
	pids := slices.Sorted(maps.Keys(h.m.procs))
	if got := h.d.Procs(); !slices.Equal(got, pids) {
		h.t.Fatalf("Procs() = %v; want %v", got, pids)
	}
	for _, pid := range append(pids, least, -1, 0, 99, greatest) {
		if got, want := h.d.Fds(pid), h.m.fds(pid); !slices.Equal(got, want) {
			h.t.Fatalf("Fds(%d) = %+v; want %+v", pid, got, want)
		}
	}
}

// whole demands what P13.8 says of every table, without the model: that each inode that is open exists and has as many opens as there are open files of it, and that what is there has a name or is open.
func (h *held) whole() {
	h.t.Helper()
	alike := map[api.Fd]int{} // how many descriptors are the same but for their numbers
	for _, pid := range h.d.Procs() {
		for _, f := range h.d.Fds(pid) {
			f.Fd = 0
			alike[f]++
		}
	}
	opens := map[int]int{}
	for f, n := range alike {
		if f.Refs < 1 || n%f.Refs != 0 {
			h.t.Fatalf("%d descriptors are %+v", n, f)
		}
		opens[f.Ino] += n / f.Refs
	}
	for _, x := range h.s.All() {
		if x.Opens-h.m.by(x.Ino).opens != opens[x.Ino] || x.Links+x.Opens == 0 {
			h.t.Fatalf("%d open files are of %+v", opens[x.Ino], x)
		}
		delete(opens, x.Ino)
	}
	if len(opens) > 0 {
		h.t.Fatalf("inodes that are not there are open: %v", opens)
	}
}
