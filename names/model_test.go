package names_test

import (
	"fmt"
	"maps"
	"math"
	"slices"
	"strings"
	"testing"

	"hayward/api"
	"hayward/inode"
	"hayward/names"
)

const (
	least    = math.MinInt64
	greatest = math.MaxInt64
)

// model is a tree without directories: it knows each name by its whole way from the root, as /d/f, and the root's is empty. Each inode has a kind and a count of opens; its links are counted out.
type model struct {
	caps  api.Caps
	ways  map[string]int
	kinds map[int]int
	opens map[int]int
}

func newModel(c api.Caps) *model {
	return &model{c, map[string]int{"": 1}, map[int]int{1: 2}, map[int]int{}}
}

// split reads a path: its parts, and whether it ends with a slash.
func split(p string) (parts []string, dir bool, e api.Errno) {
	switch {
	case len(p) == 0:
		return nil, false, api.ErrNoEnt
	case len(p) > 256:
		return nil, false, api.ErrNameLong
	case strings.Contains(p, "\x00"):
		return nil, false, api.ErrArg
	}
	for _, part := range strings.Split(p, "/") {
		if len(part) > 32 {
			return nil, false, api.ErrNameLong
		}
		if len(part) > 0 {
			parts = append(parts, part)
		}
	}
	return parts, strings.HasSuffix(p, "/"), api.OK
}

// above is the way of the directory that has the way's last name.
func above(way string) string {
	return way[:max(0, strings.LastIndex(way, "/"))]
}

// dots says whether a way's last name is one that no directory has.
func dots(way string) bool {
	return strings.HasSuffix(way, "/.") || strings.HasSuffix(way, "/..")
}

// inside says whether a way is that of top, or leads on from there.
func inside(way, top string) bool {
	return strings.HasPrefix(way+"/", top+"/")
}

// isDir says whether a way that there is leads to a directory.
func (m *model) isDir(way string) bool {
	return m.kinds[m.ways[way]] == 2
}

// walk is the way to which parts lead.
func (m *model) walk(parts []string) (string, api.Errno) {
	way := ""
	for _, part := range parts {
		switch {
		case !m.isDir(way):
			return "", api.ErrNotDir
		case part == "..":
			way = above(way)
		case part != ".":
			way += "/" + part
			if m.ways[way] == 0 {
				return "", api.ErrNoEnt
			}
		}
	}
	return way, api.OK
}

// find is the way to which a path leads.
func (m *model) find(p string) (string, api.Errno) {
	parts, dir, e := split(p)
	if e != api.OK {
		return "", e
	}
	way, e := m.walk(parts)
	if e == api.OK && dir && !m.isDir(way) {
		return "", api.ErrNotDir
	}
	return way, e
}

// place is the way that a place's name has, or would have.
func (m *model) place(parts []string) (string, api.Errno) {
	last := len(parts) - 1
	way, e := m.walk(parts[:last])
	if e != api.OK {
		return "", e
	}
	if !m.isDir(way) {
		return "", api.ErrNotDir
	}
	return way + "/" + parts[last], api.OK
}

// under are the ways that lead on from one, each a name longer.
func (m *model) under(way string) []string {
	var out []string
	for w := range m.ways {
		if w != "" && above(w) == way {
			out = append(out, w)
		}
	}
	slices.Sort(out)
	return out
}

// links is how many names an inode has.
func (m *model) links(n int) int {
	out := 0
	for _, x := range m.ways {
		if x == n {
			out++
		}
	}
	return out
}

// settle removes an inode that has neither names nor opens.
func (m *model) settle(n int) {
	if m.links(n) == 0 && m.opens[n] == 0 {
		delete(m.kinds, n)
	}
}

// vacant is the way for a new name.
func (m *model) vacant(parts []string, file, dir bool) (string, api.Errno) {
	if len(parts) == 0 {
		return "", api.ErrExist
	}
	way, e := m.place(parts)
	switch {
	case e != api.OK:
		return "", e
	case dots(way), m.ways[way] != 0:
		return "", api.ErrExist
	case file && dir:
		return "", api.ErrIsDir
	}
	return way, api.OK
}

// make is P12.3, and P11.2.
func (m *model) make(p string, kind int) (int, api.Errno) {
	if kind != 1 && kind != 2 {
		return 0, api.ErrArg
	}
	parts, dir, e := split(p)
	if e != api.OK {
		return 0, e
	}
	way, e := m.vacant(parts, kind == 1, dir)
	if e != api.OK {
		return 0, e
	}
	for n := 1; n <= m.caps.Inodes; n++ {
		if m.kinds[n] == 0 {
			m.ways[way], m.kinds[n] = n, kind
			return n, api.OK
		}
	}
	return 0, api.ErrNoSpc
}

// link is P12.4.
func (m *model) link(old, name string) api.Errno {
	_, _, e := split(old)
	if e != api.OK {
		return e
	}
	parts, dir, e := split(name)
	if e != api.OK {
		return e
	}
	from, e := m.find(old)
	switch {
	case e != api.OK:
		return e
	case m.isDir(from):
		return api.ErrPerm
	}
	to, e := m.vacant(parts, true, dir)
	switch {
	case e != api.OK:
		return e
	case m.links(m.ways[from]) == m.caps.Links:
		return api.ErrMLink
	}
	m.ways[to] = m.ways[from]
	return api.OK
}

// unlink and rmdir are P12.5.
func (m *model) unlink(p string) api.Errno {
	parts, dir, e := split(p)
	if e != api.OK {
		return e
	}
	if len(parts) == 0 {
		return api.ErrIsDir
	}
	way, e := m.place(parts)
	switch {
	case e != api.OK:
		return e
	case dots(way):
		return api.ErrIsDir
	case m.ways[way] == 0:
		return api.ErrNoEnt
	case m.isDir(way):
		return api.ErrIsDir
	case dir:
		return api.ErrNotDir
	}
	m.remove(way)
	return api.OK
}

func (m *model) rmdir(p string) api.Errno {
	parts, _, e := split(p)
	if e != api.OK {
		return e
	}
	if len(parts) == 0 {
		return api.ErrArg
	}
	way, e := m.place(parts)
	switch {
	case e != api.OK:
		return e
	case parts[len(parts)-1] == ".":
		return api.ErrArg
	case parts[len(parts)-1] == "..":
		return api.ErrNotEmpty
	case m.ways[way] == 0:
		return api.ErrNoEnt
	case !m.isDir(way):
		return api.ErrNotDir
	case len(m.under(way)) > 0:
		return api.ErrNotEmpty
	}
	m.remove(way)
	return api.OK
}

func (m *model) remove(way string) {
	n := m.ways[way]
	delete(m.ways, way)
	m.settle(n)
}

// rename is P12.6.
func (m *model) rename(old, name string) api.Errno {
	a, aDir, e := split(old)
	if e != api.OK {
		return e
	}
	b, bDir, e := split(name)
	if e != api.OK {
		return e
	}
	if len(a) == 0 || len(b) == 0 {
		return api.ErrArg
	}
	from, e := m.place(a)
	if e != api.OK {
		return e
	}
	to, e := m.place(b)
	switch {
	case e != api.OK:
		return e
	case dots(from), dots(to):
		return api.ErrArg
	case m.ways[from] == 0:
		return api.ErrNoEnt
	case !m.isDir(from) && (aDir || bDir):
		return api.ErrNotDir
	}
	if n := m.ways[to]; n != 0 {
		switch {
		case n == m.ways[from]:
			return api.OK
		case m.isDir(to) && !m.isDir(from):
			return api.ErrIsDir
		case !m.isDir(to) && m.isDir(from):
			return api.ErrNotDir
		case m.isDir(to) && len(m.under(to)) > 0:
			return api.ErrNotEmpty
		}
	}
	if m.isDir(from) && inside(above(to), from) {
		return api.ErrArg
	}
	m.move(from, to)
	return api.OK
}

// move gives all ways that begin with one another beginning.
func (m *model) move(from, to string) {
	before := m.ways[to]
	ways := map[string]int{}
	for way, n := range m.ways {
		if way == to {
			continue
		}
		if inside(way, from) {
			way = to + way[len(from):]
		}
		ways[way] = n
	}
	m.ways = ways
	m.settle(before)
}

// list is P12.7.
func (m *model) list(p string) ([]api.Name, api.Errno) {
	way, e := m.find(p)
	if e != api.OK {
		return nil, e
	}
	if !m.isDir(way) {
		return nil, api.ErrNotDir
	}
	var out []api.Name
	for _, w := range m.under(way) {
		out = append(out, api.Name{Name: w[len(way)+1:], Ino: m.ways[w], Kind: m.kinds[m.ways[w]]})
	}
	return out, api.OK
}

// all is what the store's inodes are.
func (m *model) all() []api.Stat {
	var out []api.Stat
	for _, n := range slices.Sorted(maps.Keys(m.kinds)) {
		out = append(out, api.Stat{Ino: n, Kind: m.kinds[n], Links: m.links(n), Opens: m.opens[n]})
	}
	return out
}

// text tells the model apart from all others with the same capacities.
func (m *model) text() string {
	return fmt.Sprint(m.ways, m.kinds, m.opens)
}

// held is a tree with its store beside its model: each call is made on both, and must be answered alike.
type held struct {
	t *testing.T
	s *inode.Store
	x *names.Tree
	m *model
}

func hold(t *testing.T, inodes, links int) *held {
	t.Helper()
	c := api.Caps{Inodes: inodes, Links: links}
	s, e := inode.New(c)
	if e != api.OK {
		t.Fatalf("inode.New(%+v) tells %d", c, e)
	}
	x, e := names.New(s)
	if x == nil || e != api.OK {
		t.Fatalf("New = %v, %d", x, e)
	}
	return &held{t, s, x, newModel(c)}
}

// same demands that a call was answered as the model does.
func (h *held) same(call string, got, want api.Errno) api.Errno {
	h.t.Helper()
	if got != want {
		h.t.Fatalf("%s tells %d; want %d", call, got, want)
	}
	return got
}

func (h *held) find(p string) (int, api.Errno) {
	h.t.Helper()
	way, e := h.m.find(p)
	want := 0
	if e == api.OK {
		want = h.m.ways[way]
	}
	got, ge := h.x.Find(p)
	if got != want {
		h.t.Fatalf("Find(%q) = %d; want %d", p, got, want)
	}
	return got, h.same(fmt.Sprintf("Find(%q)", p), ge, e)
}

func (h *held) make(p string, kind int) (int, api.Errno) {
	h.t.Helper()
	want, e := h.m.make(p, kind)
	got, ge := h.x.Make(p, kind)
	if got != want {
		h.t.Fatalf("Make(%q, %d) = %d; want %d", p, kind, got, want)
	}
	return got, h.same(fmt.Sprintf("Make(%q, %d)", p, kind), ge, e)
}

func (h *held) link(old, name string) api.Errno {
	h.t.Helper()
	return h.same(fmt.Sprintf("Link(%q, %q)", old, name), h.x.Link(old, name), h.m.link(old, name))
}

func (h *held) unlink(p string) api.Errno {
	h.t.Helper()
	return h.same(fmt.Sprintf("Unlink(%q)", p), h.x.Unlink(p), h.m.unlink(p))
}

func (h *held) rmdir(p string) api.Errno {
	h.t.Helper()
	return h.same(fmt.Sprintf("Rmdir(%q)", p), h.x.Rmdir(p), h.m.rmdir(p))
}

func (h *held) rename(old, name string) api.Errno {
	h.t.Helper()
	return h.same(fmt.Sprintf("Rename(%q, %q)", old, name), h.x.Rename(old, name), h.m.rename(old, name))
}

func (h *held) list(p string) ([]api.Name, api.Errno) {
	h.t.Helper()
	want, e := h.m.list(p)
	got, ge := h.x.List(p)
	if !slices.Equal(got, want) {
		h.t.Fatalf("List(%q) = %v; want %v", p, got, want)
	}
	return got, h.same(fmt.Sprintf("List(%q)", p), ge, e)
}

// open and shut are the store's own calls, as those make them who read and write files.
func (h *held) open(n int) {
	h.t.Helper()
	h.must(h.s.Open(n), api.OK)
	h.m.opens[n]++
}

func (h *held) shut(n int) {
	h.t.Helper()
	h.must(h.s.Close(n), api.OK)
	if h.m.opens[n]--; h.m.opens[n] == 0 {
		delete(h.m.opens, n)
	}
	h.m.settle(n)
}

// must holds an answer against what the test itself says.
func (h *held) must(got, want api.Errno) {
	h.t.Helper()
	if got != want {
		h.t.Fatalf("the answer is %d; want %d", got, want)
	}
}

// made makes an inode that must get number n.
func (h *held) made(p string, kind, n int) {
	h.t.Helper()
	if got, e := h.make(p, kind); got != n || e != api.OK {
		h.t.Fatalf("Make(%q, %d) = %d, %d; want %d", p, kind, got, e, n)
	}
}

// is demands that paths lead to inode n.
func (h *held) is(n int, paths ...string) {
	h.t.Helper()
	for _, p := range paths {
		if got, e := h.find(p); got != n || e != api.OK {
			h.t.Fatalf("Find(%q) = %d, %d; want %d", p, got, e, n)
		}
	}
}

// isNone demands that paths lead nowhere.
func (h *held) isNone(e api.Errno, paths ...string) {
	h.t.Helper()
	for _, p := range paths {
		if got, ge := h.find(p); got != 0 || ge != e {
			h.t.Fatalf("Find(%q) = %d, %d; want error %d", p, got, ge, e)
		}
	}
}

// counts demands how many names and opens an inode has.
func (h *held) counts(n, links, opens int) {
	h.t.Helper()
	if x, e := h.s.Stat(n); x.Links != links || x.Opens != opens || e != api.OK {
		h.t.Fatalf("Stat(%d) = %+v, %d; want Links %d, Opens %d", n, x, e, links, opens)
	}
}

// isGone demands that the store has no inode n.
func (h *held) isGone(n int) {
	h.t.Helper()
	if x, e := h.s.Stat(n); e != api.ErrNoEnt {
		h.t.Fatalf("Stat(%d) = %+v, %d; want ErrNoEnt", n, x, e)
	}
}

// check holds all that can be seen of the store and the tree against the model: the inodes, the names of all directories, and each way, with what leads on from it.
func (h *held) check() {
	h.t.Helper()
	if got, want := h.s.All(), h.m.all(); !slices.Equal(got, want) {
		h.t.Fatalf("All() = %+v; want %+v", got, want)
	}
	for way := range h.m.ways {
		for _, more := range []string{"", "/", "/.", "/..", "/none"} {
			if way+more == "" {
				continue
			}
			h.find(way + more)
			h.list(way + more)
		}
	}
}

// seen is a name that was found in a tree: the path that led there.
type seen struct {
	path string
	ino  int
}

// search finds all names of a tree by List and Find alone.
func search(t *testing.T, x *names.Tree) []seen {
	t.Helper()
	out := []seen{{"/", 1}}
	for i := 0; i < len(out); i++ {
		l, e := x.List(out[i].path)
		if e == api.ErrNotDir {
			continue
		}
		if e != api.OK {
			t.Fatalf("List(%q) tells %d", out[i].path, e)
		}
		for _, n := range l {
			out = append(out, seen{strings.TrimSuffix(out[i].path, "/") + "/" + n.Name, n.Ino})
		}
	}
	return out
}

// whole demands what P12.8 says of every tree, without the model: that all inodes that have links are found, each by as many names as it has links, and that behind a directory's name the double dot leads back.
func (h *held) whole() {
	h.t.Helper()
	found := map[int]int{}
	for _, x := range search(h.t, h.x) {
		n, e := h.x.Find(x.path)
		if n != x.ino || e != api.OK {
			h.t.Fatalf("Find(%q) = %d, %d; List tells %d", x.path, n, e, x.ino)
		}
		found[n]++
		s, e := h.s.Stat(n)
		if e != api.OK {
			h.t.Fatalf("%q is inode %d, of which Stat tells %d", x.path, n, e)
		}
		if s.Kind == api.KFile {
			continue
		}
		if s.Links != 1 {
			h.t.Fatalf("directory %q has %d links", x.path, s.Links)
		}
		back, _ := h.x.Find(above(x.path) + "/")
		if n, e := h.x.Find(x.path + "/.."); n != back || e != api.OK {
			h.t.Fatalf("Find(%q/..) = %d, %d; want %d", x.path, n, e, back)
		}
	}
	for _, s := range h.s.All() {
		if s.Links != found[s.Ino] || s.Links == 0 && s.Opens == 0 {
			h.t.Fatalf("%d names lead to %+v", found[s.Ino], s)
		}
	}
}
