package kern_test

import (
	"fmt"
	"maps"
	"slices"
	"strings"

	"hayward/api"
)

// thing is a file or a directory. Each byte that a file stores stands alone, by its offset.
type thing struct {
	ino, kind int
	size      int64
	bytes     map[int64]byte
}

// share is an open file: all descriptors that refer to it have the same one.
type share struct {
	x      *thing
	offset int64
	flags  int
}

// fileTwin knows each name by its whole way from the root, as /d/f; the root's is empty. It counts nothing along: whatever is counted, it counts out.
type fileTwin struct {
	caps  api.Caps
	ways  map[string]*thing
	procs map[int]map[int]*share
}

func newFileTwin(c api.Caps) *fileTwin {
	return &fileTwin{c, map[string]*thing{"": {ino: 1, kind: 2}}, map[int]map[int]*share{1: {}}}
}

func (m *fileTwin) has(pid int) bool { return m.procs[pid] != nil }

// shares are the open files, each with the number of its descriptors.
func (m *fileTwin) shares() map[*share]int {
	out := map[*share]int{}
	for _, fds := range m.procs {
		for _, f := range fds {
			out[f]++
		}
	}
	return out
}

// things are what a name or an open file keeps, by their numbers.
func (m *fileTwin) things() map[int]*thing {
	out := map[int]*thing{}
	for _, x := range m.ways {
		out[x.ino] = x
	}
	for f := range m.shares() {
		out[f.x.ino] = f.x
	}
	return out
}

// links and opens are how many names and open files a thing has.
func (m *fileTwin) links(x *thing) (n int64) {
	for _, y := range m.ways {
		if x == y {
			n++
		}
	}
	return n
}

func (m *fileTwin) opens(x *thing) (n int64) {
	for f := range m.shares() {
		if f.x == x {
			n++
		}
	}
	return n
}

// fields are those of a thing's Stat.
func (m *fileTwin) fields(x *thing) []int64 {
	return []int64{int64(x.ino), int64(x.kind), m.links(x), m.opens(x), x.size, int64(len(x.bytes))}
}

// fresh is a new thing under the lowest number that is not in use.
func (m *fileTwin) fresh(kind int) (*thing, api.Errno) {
	l := m.things()
	if len(l) == m.caps.Inodes {
		return nil, api.ErrNoSpc
	}
	ino := 1
	for l[ino] != nil {
		ino++
	}
	return &thing{ino: ino, kind: kind, bytes: map[int64]byte{}}, 0
}

// split reads a path: its parts, and whether it ends with a slash.
func split(p string) (parts []string, dir bool, e api.Errno) {
	switch {
	case len(p) == 0:
		return nil, false, api.ErrNoEnt
	case len(p) > 256:
		return nil, false, api.ErrNameLong
	case strings.Contains(p, "\x00"):
		return nil, false, api.ErrArg
	}
	for _, part := range strings.Split(p, "/") {
		if len(part) > 32 {
			return nil, false, api.ErrNameLong
		}
		if len(part) > 0 {
			parts = append(parts, part)
		}
	}
	return parts, strings.HasSuffix(p, "/"), 0
}

// isDir says whether a way leads to a directory.
func (m *fileTwin) isDir(way string) bool {
	return m.ways[way] != nil && m.ways[way].kind == 2
}

// walk is the way to which parts lead.
func (m *fileTwin) walk(parts []string) (string, api.Errno) {
	way := ""
	for _, part := range parts {
		switch {
		case !m.isDir(way):
			return "", api.ErrNotDir
		case part == "..":
			way = way[:max(0, strings.LastIndex(way, "/"))]
		case part != ".":
			way += "/" + part
			if m.ways[way] == nil {
				return "", api.ErrNoEnt
			}
		}
	}
	return way, 0
}

// find is the way to which a path leads.
func (m *fileTwin) find(p string) (string, api.Errno) {
	parts, dir, e := split(p)
	if e != 0 {
		return "", e
	}
	way, e := m.walk(parts)
	if e == 0 && dir && !m.isDir(way) {
		e = api.ErrNotDir
	}
	return way, e
}

// spot is the way that a path's last name has, or would have.
type spot struct {
	way, last string
	dir       bool
}

func (at spot) dots() bool { return at.last == "." || at.last == ".." }

// place is P12's; nameless is the error of a path without names.
func (m *fileTwin) place(p string, nameless api.Errno) (spot, api.Errno) {
	parts, dir, e := split(p)
	if e != 0 {
		return spot{}, e
	}
	if len(parts) == 0 {
		return spot{}, nameless
	}
	end := len(parts) - 1
	way, e := m.walk(parts[:end])
	if e == 0 && !m.isDir(way) {
		e = api.ErrNotDir
	}
	return spot{way + "/" + parts[end], parts[end], dir}, e
}

// vacant is a place for a new name.
func (m *fileTwin) vacant(p string, kind int) (spot, api.Errno) {
	at, e := m.place(p, api.ErrExist)
	switch {
	case e != 0:
	case at.dots(), m.ways[at.way] != nil:
		e = api.ErrExist
	case kind == 1 && at.dir:
		e = api.ErrIsDir
	}
	return at, e
}

func (m *fileTwin) make(p string, kind int) (*thing, api.Errno) {
	at, e := m.vacant(p, kind)
	if e != 0 {
		return nil, e
	}
	x, e := m.fresh(kind)
	if e == 0 {
		m.ways[at.way] = x
	}
	return x, e
}

// inside are the ways below a directory's, at any depth or just one.
func (m *fileTwin) inside(way string, deep bool) []string {
	var out []string
	for w := range m.ways {
		if rest, ok := strings.CutPrefix(w, way+"/"); ok && (deep || !strings.Contains(rest, "/")) {
			out = append(out, w)
		}
	}
	slices.SortFunc(out, func(a, b string) int { return slices.Compare(strings.Split(a, "/"), strings.Split(b, "/")) })
	return out
}

func (m *fileTwin) rmdir(p string) api.Errno {
	at, e := m.place(p, api.ErrArg)
	switch {
	case e != 0:
		return e
	case at.last == ".":
		return api.ErrArg
	case at.last == "..":
		return api.ErrNotEmpty
	case m.ways[at.way] == nil:
		return api.ErrNoEnt
	case !m.isDir(at.way):
		return api.ErrNotDir
	case len(m.inside(at.way, false)) > 0:
		return api.ErrNotEmpty
	}
	delete(m.ways, at.way)
	return 0
}

func (m *fileTwin) unlink(p string) api.Errno {
	at, e := m.place(p, api.ErrIsDir)
	switch {
	case e != 0:
		return e
	case at.dots():
		return api.ErrIsDir
	case m.ways[at.way] == nil:
		return api.ErrNoEnt
	case m.isDir(at.way):
		return api.ErrIsDir
	case at.dir:
		return api.ErrNotDir
	}
	delete(m.ways, at.way)
	return 0
}

func (m *fileTwin) link(old, name string) api.Errno {
	if _, _, e := split(old); e != 0 {
		return e
	}
	if _, _, e := split(name); e != 0 {
		return e
	}
	from, e := m.find(old)
	switch {
	case e != 0:
		return e
	case m.isDir(from):
		return api.ErrPerm
	}
	to, e := m.vacant(name, 1)
	switch {
	case e != 0:
		return e
	case m.links(m.ways[from]) == int64(m.caps.Links):
		return api.ErrMLink
	}
	m.ways[to.way] = m.ways[from]
	return 0
}

func (m *fileTwin) rename(old, name string) api.Errno {
	for _, p := range []string{old, name} {
		if _, _, e := split(p); e != 0 {
			return e
		}
	}
	if strings.Trim(old, "/") == "" || strings.Trim(name, "/") == "" {
		return api.ErrArg
	}
	from, e := m.place(old, 0)
	if e != 0 {
		return e
	}
	to, e := m.place(name, 0)
	if e != 0 {
		return e
	}
	if e := m.movable(from, to); e != 0 {
		return e
	}
	if m.ways[from.way] == m.ways[to.way] {
		return 0
	}
	moved := append(m.inside(from.way, true), from.way)
	for _, w := range moved {
		x := m.ways[w]
		delete(m.ways, w)
		m.ways[to.way+w[len(from.way):]] = x
	}
	return 0
}

// movable is what P12.6 checks behind the places.
func (m *fileTwin) movable(from, to spot) api.Errno {
	x, y := m.ways[from.way], m.ways[to.way]
	switch {
	case from.dots() || to.dots():
		return api.ErrArg
	case x == nil:
		return api.ErrNoEnt
	case x.kind == 1 && (from.dir || to.dir):
		return api.ErrNotDir
	case x == y:
		return 0
	case y != nil && x.kind == 1 && y.kind == 2:
		return api.ErrIsDir
	case y != nil && x.kind == 2 && y.kind == 1:
		return api.ErrNotDir
	case y != nil && len(m.inside(to.way, false)) > 0:
		return api.ErrNotEmpty
	case x.kind == 2 && strings.HasPrefix(to.way, from.way+"/"):
		return api.ErrArg
	}
	return 0
}

// list is what CList answers.
func (m *fileTwin) list(p string) (int64, string, api.Errno) {
	way, e := m.find(p)
	switch {
	case e != 0:
		return 0, "", e
	case !m.isDir(way):
		return 0, "", api.ErrNotDir
	}
	l, told := m.inside(way, false), ""
	for _, w := range l {
		x := m.ways[w]
		told += lettered(w[len(way)+1:]) + numbered(int64(x.ino), int64(x.kind))
	}
	return int64(len(l)), told, 0
}

// sound says whether flags are valid.
func sound(flags int64) bool {
	has := func(bit int64) bool { return flags&bit != 0 }
	switch {
	case flags < 0 || flags > 63, !has(1) && !has(2):
		return false
	case (has(16) || has(32)) && !has(2), has(8) && !has(4):
		return false
	}
	return true
}

// give lets the lowest descriptor that is unused refer to an open file.
func (m *fileTwin) give(pid int, f *share) int64 {
	fd := 0
	for m.procs[pid][fd] != nil {
		fd++
	}
	m.procs[pid][fd] = f
	return int64(fd)
}

// open is P13.3.
func (m *fileTwin) open(pid int, p string, flags int64) (int64, string, api.Errno) {
	switch {
	case !sound(flags):
		return 0, "", api.ErrArg
	case len(m.procs[pid]) == m.caps.Files:
		return 0, "", api.ErrMFile
	case len(m.shares()) == m.caps.Opens:
		return 0, "", api.ErrNFile
	}
	way, e := m.find(p)
	x := m.ways[way]
	switch {
	case e == api.ErrNoEnt && flags&4 != 0:
		if x, e = m.make(p, 1); e != 0 {
			return 0, "", e
		}
	case e != 0:
		return 0, "", e
	case flags&8 != 0:
		return 0, "", api.ErrExist
	case x.kind == 2:
		return 0, "", api.ErrIsDir
	case flags&16 != 0:
		x.size, x.bytes = 0, map[int64]byte{}
	}
	return m.give(pid, &share{x, 0, int(flags)}), "", 0
}

// read is what CRead answers.
func (f *share) read(n int64) (int64, string, api.Errno) {
	switch {
	case f.flags&1 == 0:
		return 0, "", api.ErrBadF
	case n < 0:
		return 0, "", api.ErrArg
	}
	b := make([]byte, max(0, min(n, f.x.size-f.offset)))
	for i := range b {
		b[i] = f.x.bytes[f.offset+int64(i)]
	}
	f.offset += int64(len(b))
	return int64(len(b)), string(b), 0
}

// write is what CWrite answers.
func (m *fileTwin) write(f *share, data string) (int64, string, api.Errno) {
	if f.flags&2 == 0 {
		return 0, "", api.ErrBadF
	}
	at := f.offset
	if f.flags&32 != 0 {
		at = f.x.size
	}
	if at+int64(len(data)) > full {
		return 0, "", api.ErrFBig
	}
	stored := 0
	for _, x := range m.things() {
		stored += len(x.bytes)
	}
	for i := range len(data) {
		if _, there := f.x.bytes[at+int64(i)]; !there {
			stored++
		}
	}
	if stored > m.caps.Bytes {
		return 0, "", api.ErrNoSpc
	}
	for i := range len(data) {
		f.x.bytes[at+int64(i)] = data[i]
		f.x.size = max(f.x.size, at+int64(i)+1)
	}
	f.offset = at + int64(len(data))
	return int64(len(data)), "", 0
}

// seek is what CSeek answers.
func (f *share) seek(by, whence int64) (int64, string, api.Errno) {
	if whence < 0 || whence > 2 {
		return 0, "", api.ErrArg
	}
	at := []int64{0, f.offset, f.x.size}[whence]
	if by < -at || by > full-at {
		return 0, "", api.ErrArg
	}
	f.offset = at + by
	return f.offset, "", 0
}

// trunc is what CTrunc answers.
func (f *share) trunc(size int64) api.Errno {
	switch {
	case f.flags&2 == 0:
		return api.ErrBadF
	case size < 0:
		return api.ErrArg
	case size > full:
		return api.ErrFBig
	}
	maps.DeleteFunc(f.x.bytes, func(at int64, _ byte) bool { return at >= size })
	f.x.size = size
	return 0
}

// onFd makes the calls that have a descriptor.
func (m *fileTwin) onFd(pid int, c api.Call) (int64, string, api.Errno) {
	fd := int(c.N[0])
	f := m.procs[pid][fd]
	if f == nil {
		return 0, "", api.ErrBadF
	}
	switch c.No {
	case 2:
		delete(m.procs[pid], fd)
	case 3:
		if len(m.procs[pid]) == m.caps.Files {
			return 0, "", api.ErrMFile
		}
		return m.give(pid, f), "", 0
	case 4:
		return f.read(c.N[1])
	case 5:
		return m.write(f, c.S[0])
	case 6:
		return f.seek(c.N[1], c.N[2])
	case 7:
		return 0, "", f.trunc(c.N[1])
	case 8:
		l := m.fields(f.x)
		return l[0], numbered(l[1:]...), 0
	}
	return 0, "", 0
}

func (m *fileTwin) perform(pid int, c api.Call) (int64, string, api.Errno) {
	switch p := c.S[0]; c.No {
	case 1:
		return m.open(pid, p, c.N[0])
	case 9:
		x, e := m.make(p, 2)
		if e != 0 {
			return 0, "", e
		}
		return int64(x.ino), "", 0
	case 10:
		return 0, "", m.rmdir(p)
	case 11:
		return 0, "", m.link(p, c.S[1])
	case 12:
		return 0, "", m.unlink(p)
	case 13:
		return 0, "", m.rename(p, c.S[1])
	case 14:
		return m.list(p)
	case 101:
		switch to := int(c.N[0]); {
		case to < 1:
			return 0, "", api.ErrArg
		case m.has(to):
			return 0, "", api.ErrExist
		default:
			m.procs[to] = maps.Clone(m.procs[pid])
			return 0, "", 0
		}
	case 102:
		delete(m.procs, pid)
		return 0, "", 0
	}
	return m.onFd(pid, c)
}

func (m *fileTwin) state() string {
	var out text
	l := m.things()
	for _, ino := range slices.Sorted(maps.Keys(l)) {
		x := m.fields(l[ino])
		out.line("i", x[0], x[1], x[2], x[3], x[4], x[5])
		if l[ino].kind == 2 {
			continue
		}
		sum := uint64(0)
		for at, b := range l[ino].bytes {
			sum += uint64(at+1) * uint64(b)
		}
		out.line("c", ino, sum)
	}
	for _, w := range m.inside("", true) {
		if strings.LastIndex(w, "/") <= 255 { // so long is its directory's path without the slash
			out.line("n", fmt.Sprintf("%x", w), m.ways[w].ino)
		}
	}
	shares := m.shares()
	for _, pid := range slices.Sorted(maps.Keys(m.procs)) {
		out.line("p", pid)
		for _, fd := range slices.Sorted(maps.Keys(m.procs[pid])) {
			f := m.procs[pid][fd]
			out.line("f", fd, f.x.ino, f.offset, f.flags, shares[f])
		}
	}
	return out.String()
}
