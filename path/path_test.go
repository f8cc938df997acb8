package path_test

import (
	"bytes"
	"fmt"
	"math/rand"
	library "path"
	"slices"
	"strings"
	"testing"

	"hayward/api"
	"hayward/path"
)

// The signatures are part of the chapter.
var (
	_ func(s string) bool                       = path.IsName
	_ func(s string) (api.Path, api.Errno)      = path.Parse
	_ func(p api.Path) (string, api.Errno)      = path.Show
	_ func(p api.Path) (api.Path, api.Errno)    = path.Norm
	_ func(a, b api.Path) (api.Path, api.Errno) = path.Join
)

const (
	longestName = 32
	longestPath = 256
)

var root = api.Path{Abs: true, Dir: true}

// same holds two paths against each other; nil and empty Names are equivalent.
func same(a, b api.Path) bool {
	return a.Abs == b.Abs && a.Dir == b.Dir && slices.Equal(a.Names, b.Names)
}

// component is the chapter's word.
func component(s string) bool {
	return len(s) >= 1 && len(s) <= longestName && !strings.Contains(s, "/") && !strings.Contains(s, "\x00")
}

// text is that of any path, valid or not.
func text(p api.Path) string {
	s := strings.Join(p.Names, "/")
	if p.Dir && len(p.Names) > 0 {
		s += "/"
	}
	if p.Abs {
		s = "/" + s
	}
	return s
}

func valid(p api.Path) bool {
	if len(p.Names) == 0 {
		return same(p, root)
	}
	return !slices.ContainsFunc(p.Names, func(s string) bool { return !component(s) }) && len(text(p)) <= longestPath
}

// parsed is P4.1 by the library: what is checked, in its order, and the parts that aren't empty.
func parsed(s string) (api.Path, api.Errno) {
	parts := strings.Split(s, "/")
	if len(s) == 0 {
		return api.Path{}, api.ErrNoEnt
	}
	if len(s) > longestPath {
		return api.Path{}, api.ErrNameLong
	}
	if strings.Contains(s, "\x00") {
		return api.Path{}, api.ErrArg
	}
	if slices.ContainsFunc(parts, func(s string) bool { return len(s) > longestName }) {
		return api.Path{}, api.ErrNameLong
	}
	names := slices.DeleteFunc(parts, func(s string) bool { return s == "" })
	return api.Path{Abs: strings.HasPrefix(s, "/"), Names: names, Dir: strings.HasSuffix(s, "/")}, api.OK
}

// normal is P4.2 by the library, whose own normal form is the same but for the slash at the end.
func normal(p api.Path) (api.Path, api.Errno) {
	if !valid(p) {
		return api.Path{}, api.ErrArg
	}
	clean := library.Clean(text(p))
	if p.Dir && clean != "/" {
		clean += "/"
	}
	return parsed(clean)
}

// joined is P4.3.
func joined(a, b api.Path) (api.Path, api.Errno) {
	if !valid(a) || !valid(b) {
		return api.Path{}, api.ErrArg
	}
	if b.Abs {
		return b, api.OK
	}
	p := api.Path{Abs: a.Abs, Names: slices.Concat(a.Names, b.Names), Dir: b.Dir}
	if len(text(p)) > longestPath {
		return api.Path{}, api.ErrNameLong
	}
	return p, api.OK
}

// brief is the beginning of a text, for messages.
func brief(s string) string {
	return s[:min(len(s), 80)]
}

// told writes a path, the parts of which its text doesn't tell if it is invalid.
func told(p api.Path) string {
	return fmt.Sprintf("{%t %s %t}", p.Abs, brief(fmt.Sprintf("%q", p.Names)), p.Dir)
}

// The wants hold what was answered against what is wanted; beside an error, nothing is.
func wantName(t *testing.T, s string, want bool) {
	t.Helper()
	if got := path.IsName(s); got != want {
		t.Errorf("IsName(%q): %t; want %t", brief(s), got, want)
	}
}

func wantParse(t *testing.T, s string, want api.Path, e api.Errno) {
	t.Helper()
	if got, ge := path.Parse(s); !same(got, want) || ge != e {
		t.Errorf("Parse(%q, %d bytes): %s, %d; want %s, %d", brief(s), len(s), told(got), ge, told(want), e)
	}
}

func wantShow(t *testing.T, p api.Path, want string, e api.Errno) {
	t.Helper()
	if got, ge := path.Show(p); got != want || ge != e {
		t.Errorf("Show(%s): %q, %d; want %q, %d", told(p), got, ge, want, e)
	}
}

func wantNorm(t *testing.T, p, want api.Path, e api.Errno) {
	t.Helper()
	if got, ge := path.Norm(p); !same(got, want) || ge != e {
		t.Errorf("Norm(%s): %s, %d; want %s, %d", told(p), told(got), ge, told(want), e)
	}
}

func wantJoin(t *testing.T, a, b, want api.Path, e api.Errno) {
	t.Helper()
	if got, ge := path.Join(a, b); !same(got, want) || ge != e {
		t.Errorf("Join(%s, %s): %s, %d; want %s, %d", told(a), told(b), told(got), ge, told(want), e)
	}
}

// read parses a text of a test, which must be a path.
func read(t *testing.T, s string) api.Path {
	t.Helper()
	p, e := path.Parse(s)
	if e != api.OK {
		t.Fatalf("Parse(%q): %d", brief(s), e)
	}
	return p
}

// flags calls visit with all values of Abs and Dir.
func flags(visit func(abs, dir bool)) {
	for i := range 4 {
		visit(i&1 == 1, i&2 == 2)
	}
}

// strung calls visit with all strings of at most so many bytes of an alphabet.
func strung(alphabet string, most int, visit func(s string)) {
	var grow func(s string)
	grow = func(s string) {
		visit(s)
		if len(s) < most {
			for i := range len(alphabet) {
				grow(s + alphabet[i:i+1])
			}
		}
	}
	grow("")
}

// listed calls visit with all paths of at most so many of these names; the Names are visit's own.
func listed(names []string, most int, visit func(p api.Path)) {
	var grow func(l []string)
	grow = func(l []string) {
		flags(func(abs, dir bool) { visit(api.Path{Abs: abs, Names: slices.Clone(l), Dir: dir}) })
		if len(l) < most {
			for _, s := range names {
				grow(append(slices.Clone(l), s))
			}
		}
	}
	grow(nil)
}

// lettered is names whose text, without Abs and Dir, has so many bytes; none is longer than each, which is 2 at least.
func lettered(size, each int) []string {
	var out []string
	for size > each {
		n := min(each, size-2) // a slash and a name of a byte at least come after it
		out = append(out, strings.Repeat("n", n))
		size -= n + 1
	}
	return append(out, strings.Repeat("z", size))
}

// sized is a path whose text has so many bytes.
func sized(size int, abs, dir bool) api.Path {
	if abs {
		size--
	}
	if dir {
		size--
	}
	return api.Path{Abs: abs, Names: lettered(size, longestName), Dir: dir}
}

// badNames are no components.
func badNames() []string {
	return []string{
		"", "/", "//", "/a", "a/", "a/b", "../a", "\x00", "\x00a", "a\x00", "a\x00b", "/\x00",
		strings.Repeat("n", longestName+1), strings.Repeat("n", longestPath+1), strings.Repeat("é", longestName/2) + "e",
		strings.Repeat("n", longestName-1) + "/", strings.Repeat("n", longestName-1) + "\x00",
		"/" + strings.Repeat("n", longestName-1), "\x00" + strings.Repeat("n", longestName-1),
	}
}

// goodNames are components, the dots and bytes that are no valid UTF-8 among them.
func goodNames() []string {
	return []string{
		"a", ".", "..", "...", ".a", "a.", "..a", "a..", "a.b", " ", "\\", "\n", "\x01", "\x7f", "\x80", "\xff", "\xc3", "\xc0\xaf", "\xc0\x80", "\xe2\x82", "\xf4\x90\x80\x80",
		"é", "€", "a\xffb", "\"", ":", "-", "*", "~",
		strings.Repeat("n", longestName-1), strings.Repeat("n", longestName), strings.Repeat("\xff", longestName), strings.Repeat("é", longestName/2), strings.Repeat(".", longestName),
	}
}

// invalid are paths that have no text, in each way: no names, a name that is no component at each place, a text that is too long.
func invalid() []api.Path {
	var out []api.Path
	for _, l := range [][]string{nil, {}, make([]string, 0, 3), []string{"a", "b"}[:0]} {
		out = append(out, api.Path{Names: l}, api.Path{Names: l, Abs: true}, api.Path{Names: l, Dir: true})
	}
	flags(func(abs, dir bool) {
		for _, s := range badNames() {
			for _, l := range [][]string{{s}, {s, "a"}, {"a", s}, {"a", s, "b"}, {"..", s}, {s, ".."}, {".", s}, {s, s}} {
				out = append(out, api.Path{Abs: abs, Names: l, Dir: dir})
			}
		}
		for _, n := range []int{longestPath + 1, longestPath + 2, longestPath + 3, 2 * longestPath, 10000} {
			out = append(out, sized(n, abs, dir), api.Path{Abs: abs, Names: lettered(n, 2), Dir: dir})
		}
		for _, s := range []string{".", "..", "a"} {
			out = append(out, api.Path{Abs: abs, Names: slices.Repeat([]string{s}, longestPath+1), Dir: dir})
		}
	})
	return out
}

// known are valid paths, the root and the longest ones among them.
func known() []api.Path {
	out := []api.Path{root, {Abs: true, Names: []string{}, Dir: true}, {Abs: true, Names: []string{"a", "b"}[:0], Dir: true}}
	flags(func(abs, dir bool) {
		for _, s := range goodNames() {
			out = append(out, api.Path{Abs: abs, Names: []string{s}, Dir: dir}, api.Path{Abs: abs, Names: []string{s, "b", s}, Dir: dir})
		}
		for _, n := range []int{3, 4, 31, 32, 33, 34, 35, 36, 127, 128, 129, 254, 255, 256} {
			out = append(out, sized(n, abs, dir))
		}
		out = append(out, api.Path{Abs: abs, Names: slices.Repeat([]string{"."}, 127), Dir: dir}, api.Path{Abs: abs, Names: slices.Repeat([]string{".."}, 85), Dir: dir})
	})
	return out
}

// TestSamples: what the tests take for valid is, and what they take for invalid isn't.
func TestSamples(t *testing.T) {
	for _, p := range known() {
		if !valid(p) {
			t.Errorf("%s is not valid", told(p))
		}
	}
	for _, p := range invalid() {
		if valid(p) {
			t.Errorf("%s is valid", told(p))
		}
	}
	for n := 3; n <= 1000; n++ {
		flags(func(abs, dir bool) {
			for _, p := range []api.Path{sized(n, abs, dir), {Abs: abs, Names: lettered(n, 2), Dir: dir}} {
				if valid(p) != (len(text(p)) <= longestPath) {
					t.Errorf("%s has a name that is no component", told(p))
				}
			}
			if s := text(sized(n, abs, dir)); len(s) != n {
				t.Errorf("a path of %d bytes has %d", n, len(s))
			}
		})
	}
}

// TestIsName: P4.1, the dots, lengths at both borders, a slash or a byte 00 at each place.
func TestIsName(t *testing.T) {
	for _, s := range goodNames() {
		wantName(t, s, s != "." && s != "..")
	}
	for _, s := range badNames() {
		wantName(t, s, false)
	}
	for n := range 300 {
		for _, letter := range []string{"a", "\xff", "\x01"} {
			wantName(t, strings.Repeat(letter, n), n >= 1 && n <= 32)
		}
		wantName(t, strings.Repeat(".", n), n >= 3 && n <= 32)
	}
	for n := 1; n <= 33; n++ {
		for at := range n {
			for b := range 256 {
				s := []byte(strings.Repeat("a", n))
				s[at] = byte(b)
				wantName(t, string(s), n <= 32 && b != 0 && b != '/' && !(n == 1 && b == '.'))
			}
		}
	}
	strung("a./\x00\xff", 5, func(s string) { wantName(t, s, component(s) && s != "." && s != "..") })
}

// TestParseExamples: P4.1, the chapter's and others, with slashes at the beginning, in the middle and at the end.
func TestParseExamples(t *testing.T) {
	for _, c := range []struct {
		s    string
		want api.Path
		e    api.Errno
	}{
		{"//a/b/", api.Path{Abs: true, Names: []string{"a", "b"}, Dir: true}, api.OK},
		{"", api.Path{}, api.ErrNoEnt},
		{"/", root, api.OK},
		{"//", root, api.OK},
		{"///", root, api.OK},
		{"a", api.Path{Names: []string{"a"}}, api.OK},
		{"/a", api.Path{Abs: true, Names: []string{"a"}}, api.OK},
		{"a/", api.Path{Names: []string{"a"}, Dir: true}, api.OK},
		{"/a/", api.Path{Abs: true, Names: []string{"a"}, Dir: true}, api.OK},
		{"a/b", api.Path{Names: []string{"a", "b"}}, api.OK},
		{"a//b", api.Path{Names: []string{"a", "b"}}, api.OK},
		{"a///b//c", api.Path{Names: []string{"a", "b", "c"}}, api.OK},
		{"a//", api.Path{Names: []string{"a"}, Dir: true}, api.OK},
		{"///a", api.Path{Abs: true, Names: []string{"a"}}, api.OK},
		{"///a////b///", api.Path{Abs: true, Names: []string{"a", "b"}, Dir: true}, api.OK},
		{".", api.Path{Names: []string{"."}}, api.OK},
		{"..", api.Path{Names: []string{".."}}, api.OK},
		{"...", api.Path{Names: []string{"..."}}, api.OK},
		{"/.", api.Path{Abs: true, Names: []string{"."}}, api.OK},
		{"./", api.Path{Names: []string{"."}, Dir: true}, api.OK},
		{"/../.", api.Path{Abs: true, Names: []string{"..", "."}}, api.OK},
		{"a/./../b", api.Path{Names: []string{"a", ".", "..", "b"}}, api.OK},
		{"\xff/\xc3/é", api.Path{Names: []string{"\xff", "\xc3", "é"}}, api.OK},
		{"\xc3/", api.Path{Names: []string{"\xc3"}, Dir: true}, api.OK},
		{"\xc0\xaf", api.Path{Names: []string{"\xc0\xaf"}}, api.OK},
		{" / ", api.Path{Names: []string{" ", " "}}, api.OK},
		{"a\\b", api.Path{Names: []string{"a\\b"}}, api.OK},
		{"\x00", api.Path{}, api.ErrArg},
		{"/\x00", api.Path{}, api.ErrArg},
		{"\x00/", api.Path{}, api.ErrArg},
		{"a/\x00/b", api.Path{}, api.ErrArg},
	} {
		wantParse(t, c.s, c.want, c.e)
	}
}

// TestParseLengths: P4.1, texts at the border of 256 bytes, of slashes alone and of names; repeated slashes count.
func TestParseLengths(t *testing.T) {
	for n := 1; n <= 600; n++ {
		if n <= 256 {
			wantParse(t, strings.Repeat("/", n), root, api.OK)
		} else {
			wantParse(t, strings.Repeat("/", n), api.Path{}, api.ErrNameLong)
		}
	}
	for n := 3; n <= 300; n++ {
		flags(func(abs, dir bool) {
			for _, p := range []api.Path{sized(n, abs, dir), {Abs: abs, Names: lettered(n, 2), Dir: dir}} {
				s := text(p)
				if len(s) <= 256 {
					wantParse(t, s, p, api.OK)
				} else {
					wantParse(t, s, api.Path{}, api.ErrNameLong)
				}
			}
		})
	}
	for _, n := range []int{255, 256, 257} {
		gap := strings.Repeat("/", n-2)
		for _, c := range []struct {
			s    string
			want api.Path
		}{
			{"a" + gap + "b", api.Path{Names: []string{"a", "b"}}},
			{"/a" + gap, api.Path{Abs: true, Names: []string{"a"}, Dir: true}},
			{gap + "ab", api.Path{Abs: true, Names: []string{"ab"}}},
			{"ab" + gap, api.Path{Names: []string{"ab"}, Dir: true}},
		} {
			if n <= 256 {
				wantParse(t, c.s, c.want, api.OK)
			} else {
				wantParse(t, c.s, api.Path{}, api.ErrNameLong)
			}
		}
	}
	wantParse(t, strings.Repeat("a/", 1<<20), api.Path{}, api.ErrNameLong)
}

// TestParseParts: P4.1, parts at the border of 32 bytes, at the beginning, in the middle and at the end.
func TestParseParts(t *testing.T) {
	for n := 1; n <= 256; n++ {
		for _, letter := range []string{"a", "\xff", "."} {
			part := strings.Repeat(letter, n)
			for _, c := range []struct {
				s    string
				want api.Path
			}{
				{part, api.Path{Names: []string{part}}},
				{"/" + part, api.Path{Abs: true, Names: []string{part}}},
				{part + "/", api.Path{Names: []string{part}, Dir: true}},
				{"//" + part + "//", api.Path{Abs: true, Names: []string{part}, Dir: true}},
				{"b/" + part, api.Path{Names: []string{"b", part}}},
				{part + "/b", api.Path{Names: []string{part, "b"}}},
				{"b/" + part + "/c", api.Path{Names: []string{"b", part, "c"}}},
				{"b//" + part + "//c", api.Path{Names: []string{"b", part, "c"}}},
			} {
				if n <= 32 {
					wantParse(t, c.s, c.want, api.OK)
				} else {
					wantParse(t, c.s, api.Path{}, api.ErrNameLong)
				}
			}
		}
	}
}

// TestParseOrder: P4.1, a byte 00 at each place of a text that is just short enough, that is too long, that has parts that are too long.
func TestParseOrder(t *testing.T) {
	for _, c := range []struct {
		s string
		e api.Errno // with a byte 00 somewhere
	}{
		{"a", api.ErrArg},
		{"/", api.ErrArg},
		{"//a/b/", api.ErrArg},
		{strings.Repeat("a", 32), api.ErrArg},
		{strings.Repeat("a", 33), api.ErrArg},
		{strings.Repeat("a", 256), api.ErrArg},
		{strings.Repeat("a", 257), api.ErrNameLong},
		{strings.Repeat("/", 256), api.ErrArg},
		{strings.Repeat("/", 257), api.ErrNameLong},
		{"b/" + strings.Repeat("a", 33) + "/c", api.ErrArg},
		{strings.Repeat(strings.Repeat("a", 33)+"/", 7), api.ErrArg},
		{strings.Repeat(strings.Repeat("a", 33)+"/", 8), api.ErrNameLong},
		{text(sized(255, true, true)), api.ErrArg},
		{text(sized(256, false, false)), api.ErrArg},
		{text(sized(256, true, true)), api.ErrArg},
		{text(sized(257, false, false)), api.ErrNameLong},
		{text(sized(257, true, true)), api.ErrNameLong},
	} {
		for at := range len(c.s) {
			wantParse(t, c.s[:at]+"\x00"+c.s[at+1:], api.Path{}, c.e)
		}
	}
	wantParse(t, strings.Repeat("a", 32)+"\x00", api.Path{}, api.ErrArg)
	wantParse(t, "\x00"+strings.Repeat("a", 255), api.Path{}, api.ErrArg)
	wantParse(t, "\x00"+strings.Repeat("a", 256), api.Path{}, api.ErrNameLong)
	wantParse(t, strings.Repeat("\x00", 256), api.Path{}, api.ErrArg)
	wantParse(t, strings.Repeat("\x00", 257), api.Path{}, api.ErrNameLong)
}

// TestParseAll: P4.1, all short texts, and longer ones that are made at random.
func TestParseAll(t *testing.T) {
	hold := func(s string) {
		p, e := parsed(s)
		wantParse(t, s, p, e)
	}
	strung("/a.\x00\xff", 6, hold)
	random := rand.New(rand.NewSource(1))
	for range 20000 {
		s := make([]byte, random.Intn(300))
		for i := range s {
			s[i] = "aaaa...bb\xffé////"[random.Intn(16)]
			if random.Intn(8000) == 0 {
				s[i] = 0
			}
		}
		hold(string(s))
		hold(strings.ReplaceAll(string(s), "/", ""))
	}
}

// TestShow: P4.2, the text of every valid path, and no other.
func TestShow(t *testing.T) {
	for want, p := range map[string]api.Path{
		"a":       {Names: []string{"a"}},
		"/a":      {Abs: true, Names: []string{"a"}},
		"a/":      {Names: []string{"a"}, Dir: true},
		"/a/b/":   {Abs: true, Names: []string{"a", "b"}, Dir: true},
		"a/b":     {Names: []string{"a", "b"}},
		"/":       root,
		".":       {Names: []string{"."}},
		"../..":   {Names: []string{"..", ".."}},
		"/./../":  {Abs: true, Names: []string{".", ".."}, Dir: true},
		"\xff/é/": {Names: []string{"\xff", "é"}, Dir: true},
	} {
		wantShow(t, p, want, api.OK)
	}
	wantShow(t, api.Path{}, "", api.ErrArg)
	for _, p := range known() {
		wantShow(t, p, text(p), api.OK)
	}
	for _, p := range invalid() {
		wantShow(t, p, "", api.ErrArg)
	}
	hold := func(p api.Path) {
		if valid(p) {
			wantShow(t, p, text(p), api.OK)
		} else {
			wantShow(t, p, "", api.ErrArg)
		}
	}
	listed([]string{"a", "..", ".", "", "a/b", "\x00", "\xff"}, 3, hold)
	for n := 3; n <= 300; n++ {
		flags(func(abs, dir bool) {
			hold(sized(n, abs, dir))
			hold(api.Path{Abs: abs, Names: lettered(n, 2), Dir: dir})
		})
	}
}

// TestLongestText: P4.2 and P4.3, names of just 256 bytes leave no room for a slash of Abs, nor for one of Dir.
func TestLongestText(t *testing.T) {
	lists := [][]string{slices.Repeat([]string{"a"}, 127), slices.Repeat([]string{"a"}, 128), slices.Repeat([]string{"a"}, 129), slices.Repeat([]string{".."}, 85), slices.Repeat([]string{".."}, 86)}
	for n := 253; n <= 258; n++ {
		lists = append(lists, lettered(n, longestName), lettered(n, 2), append(lettered(n-3, 7), ".."), append([]string{"."}, lettered(n-2, 31)...))
	}
	b := api.Path{Names: []string{"b"}}
	for _, l := range lists {
		flags(func(abs, dir bool) {
			p, size := api.Path{Abs: abs, Names: l, Dir: dir}, len(strings.Join(l, "/"))
			if abs {
				size++
			}
			if dir {
				size++
			}
			if size <= 256 {
				wantShow(t, p, text(p), api.OK)
				norm, _ := normal(p)
				wantNorm(t, p, norm, api.OK)
				wantJoin(t, p, root, root, api.OK)
				return
			}
			wantShow(t, p, "", api.ErrArg)
			wantNorm(t, p, api.Path{}, api.ErrArg)
			wantJoin(t, p, root, api.Path{}, api.ErrArg)
			wantJoin(t, root, p, api.Path{}, api.ErrArg)
			wantJoin(t, p, b, api.Path{}, api.ErrArg)
			wantJoin(t, b, p, api.Path{}, api.ErrArg)
		})
	}
}

// TestNormExamples: P4.2, the chapter's and others: dots and double dots at the beginning, in the middle and at the end.
func TestNormExamples(t *testing.T) {
	for _, c := range [][2]string{
		{"a/./../../b", "../b"}, {"/../a", "/a"}, {"a/..", "."}, {"/a/../", "/"},
		{"a", "a"}, {"/a", "/a"}, {"a/", "a/"}, {"/a/", "/a/"}, {"/", "/"},
		{".", "."}, {"./", "./"}, {"/.", "/"}, {"/./", "/"}, {"./.", "."}, {"././", "./"},
		{"..", ".."}, {"../", "../"}, {"/..", "/"}, {"/../", "/"}, {"../..", "../.."}, {"/../..", "/"}, {"../../", "../../"}, {"/../../", "/"},
		{"./..", ".."}, {"../.", ".."}, {".././", "../"}, {"/./..", "/"},
		{"./a", "a"}, {"a/.", "a"}, {"a/./", "a/"}, {"a/./b", "a/b"}, {"./a/./b/.", "a/b"},
		{"../a", "../a"}, {"a/../b", "b"}, {"a/../b/..", "."}, {"a/b/..", "a"}, {"a/b/../", "a/"}, {"a/b/../..", "."}, {"a/b/../../", "./"}, {"a/../", "./"},
		{"a/../..", ".."}, {"a/../../..", "../.."}, {"a/../../", "../"}, {"a/b/../../../c", "../c"}, {"../a/../..", "../.."}, {"../../a/..", "../.."},
		{"/a/..", "/"}, {"/a/../..", "/"}, {"/a/../../b", "/b"}, {"/a/../../b/", "/b/"}, {"/a/b/../../../c/d/..", "/c"}, {"/../../a/../b", "/b"},
		{"...", "..."}, {".../..", "."}, {"/.../...", "/.../..."}, {"..a/..", "."}, {"a../..b", "a../..b"}, {".a/../.b", ".b"},
		{"\xff/../\xfe", "\xfe"}, {"a//..//b", "b"},
	} {
		want := read(t, c[1])
		wantNorm(t, read(t, c[0]), want, api.OK)
	}
}

// TestNorm: P4.2, all paths of few names, the known ones, and the invalid ones.
func TestNorm(t *testing.T) {
	listed([]string{".", "..", "a", "b", "..."}, 5, func(p api.Path) {
		want, e := normal(p)
		wantNorm(t, p, want, e)
	})
	for _, p := range known() {
		want, e := normal(p)
		wantNorm(t, p, want, e)
	}
	for _, p := range invalid() {
		wantNorm(t, p, api.Path{}, api.ErrArg)
	}
}

// TestNormLong: P4.2, as many names and double dots as a path has room for, in all mixtures.
func TestNormLong(t *testing.T) {
	for names := range 80 {
		for ups := 0; ups <= 80 && 2*names+3*ups <= 250; ups++ {
			for _, l := range [][]string{
				slices.Concat(slices.Repeat([]string{"a"}, names), slices.Repeat([]string{".."}, ups)),
				slices.Concat(slices.Repeat([]string{".."}, ups), slices.Repeat([]string{"a"}, names)),
			} {
				flags(func(abs, dir bool) {
					p := api.Path{Abs: abs, Names: l, Dir: dir}
					want, e := normal(p)
					wantNorm(t, p, want, e)
				})
			}
		}
	}
	random := rand.New(rand.NewSource(2))
	for range 20000 {
		p := api.Path{Abs: random.Intn(2) == 0, Dir: random.Intn(2) == 0}
		for range 1 + random.Intn(70) {
			p.Names = append(p.Names, []string{".", "..", "..", "a", "b", "\xff"}[random.Intn(6)])
		}
		want, e := normal(p)
		wantNorm(t, p, want, e)
	}
}

// TestJoinExamples: P4.3, the chapter's and others.
func TestJoinExamples(t *testing.T) {
	for _, c := range [][3]string{
		{"/a", "b/", "/a/b/"}, {"a", "/b", "/b"},
		{"a", "b", "a/b"}, {"a/", "b", "a/b"}, {"a", "b/", "a/b/"}, {"a/", "b/", "a/b/"}, {"/a/", "b", "/a/b"},
		{"/a", "/b", "/b"}, {"/a", "/b/", "/b/"}, {"a/", "/b", "/b"}, {"/a/b/c", "/d/e", "/d/e"},
		{"/", "b", "/b"}, {"/", "b/", "/b/"}, {"/", "/b", "/b"}, {"/", "/", "/"}, {"a", "/", "/"}, {"a/", "/", "/"}, {"/a/b", "/", "/"},
		{"/", "..", "/.."}, {"a", "..", "a/.."}, {"a", ".", "a/."}, {".", "b", "./b"}, {"..", "../b/", "../../b/"}, {".", ".", "./."},
		{"a/b", "c/d", "a/b/c/d"}, {"\xff", "é", "\xff/é"},
	} {
		wantJoin(t, read(t, c[0]), read(t, c[1]), read(t, c[2]), api.OK)
	}
}

// TestJoin: P4.3, all pairs of paths of few names, and of the known ones; an invalid one on either side.
func TestJoin(t *testing.T) {
	hold := func(a, b api.Path) {
		want, e := joined(a, b)
		wantJoin(t, a, b, want, e)
	}
	var few []api.Path
	listed([]string{".", "..", "a", "b", ""}, 2, func(p api.Path) { few = append(few, p) })
	for _, a := range few {
		for _, b := range few {
			hold(a, b)
		}
	}
	good := known()
	for _, a := range good {
		for _, b := range good {
			hold(a, b)
		}
	}
	some := append(few[:40], root, sized(255, false, false), sized(256, false, true), sized(256, true, false), sized(256, true, true))
	for _, p := range invalid() {
		for _, q := range some {
			wantJoin(t, p, q, api.Path{}, api.ErrArg)
			wantJoin(t, q, p, api.Path{}, api.ErrArg)
		}
		wantJoin(t, p, p, api.Path{}, api.ErrArg)
	}
}

// TestJoinLengths: P4.3, results at the border of 256 bytes: neither a's Dir nor b's Abs counts, a's Abs and b's Dir do.
func TestJoinLengths(t *testing.T) {
	for n := 3; n <= 256; n++ {
		for m := max(3, 250-n); m <= min(256, 262-n); m++ {
			flags(func(abs, dirA bool) {
				flags(func(absB, dir bool) {
					a, b := sized(n, abs, dirA), sized(m, absB, dir)
					size := n + 1 + m
					if dirA {
						size--
					}
					switch {
					case absB:
						wantJoin(t, a, b, b, api.OK)
					case size > 256:
						wantJoin(t, a, b, api.Path{}, api.ErrNameLong)
					default:
						want := api.Path{Abs: abs, Names: slices.Concat(a.Names, b.Names), Dir: dir}
						wantJoin(t, a, b, want, api.OK)
					}
				})
			})
		}
	}
	for n := 250; n <= 256; n++ {
		for _, dir := range []bool{false, true} {
			relative, absolute := sized(n, false, dir), sized(n, true, dir)
			if n < 256 {
				wantJoin(t, root, relative, api.Path{Abs: true, Names: relative.Names, Dir: dir}, api.OK)
			} else {
				wantJoin(t, root, relative, api.Path{}, api.ErrNameLong)
			}
			wantJoin(t, root, absolute, absolute, api.OK)
			wantJoin(t, relative, root, root, api.OK)
			wantJoin(t, absolute, root, root, api.OK)
			wantJoin(t, absolute, absolute, absolute, api.OK)
			wantJoin(t, relative, absolute, absolute, api.OK)
			wantJoin(t, relative, relative, api.Path{}, api.ErrNameLong)
		}
	}
}

// spared is p with spare capacity behind its Names, and all of that memory.
func spared(p api.Path) (api.Path, []string) {
	whole := append(slices.Clone(p.Names), "spare", "..", ".", "", "/")
	p.Names = whole[:len(p.Names)]
	return p, whole
}

// overwrite changes all names of a path, and those of its spare capacity.
func overwrite(p api.Path) {
	l := p.Names[:cap(p.Names)]
	for i := range l {
		l[i] = "overwritten"
	}
}

// answers are what is answered with a path, by name.
var answers = map[string]func(p api.Path) (api.Path, api.Errno){
	"Norm":                 path.Norm,
	"Join with a path":     func(p api.Path) (api.Path, api.Errno) { return path.Join(p, api.Path{Names: []string{"b"}}) },
	"Join with the root":   func(p api.Path) (api.Path, api.Errno) { return path.Join(p, root) },
	"Join with itself":     func(p api.Path) (api.Path, api.Errno) { return path.Join(p, p) },
	"Join behind a path":   func(p api.Path) (api.Path, api.Errno) { return path.Join(api.Path{Names: []string{"a"}, Dir: true}, p) },
	"Join behind the root": func(p api.Path) (api.Path, api.Errno) { return path.Join(root, p) },
	"Show": func(p api.Path) (api.Path, api.Errno) {
		s, e := path.Show(p)
		return api.Path{Names: []string{s}}, e
	},
}

// TestArguments: R3, nothing is written into the Names that are handed in nor behind them, they aren't kept, and an answer is new memory.
func TestArguments(t *testing.T) {
	var all []api.Path
	listed([]string{".", "..", "a", "b"}, 4, func(p api.Path) { all = append(all, p) })
	all = append(append(all, known()...), invalid()...)
	for name, answer := range answers {
		for _, given := range all {
			p, whole := spared(given)
			before := slices.Clone(whole)
			first, e := answer(p)
			second, f := answer(p)
			if !same(first, second) || e != f {
				t.Errorf("%s, %s: %s, %d and then %s, %d", name, told(given), told(first), e, told(second), f)
			}
			kept := slices.Clone(second.Names)
			overwrite(first)
			if !slices.Equal(whole, before) {
				t.Errorf("%s, %s: the Names and what is behind them are now %q", name, told(given), whole)
			}
			overwrite(p)
			if !slices.Equal(second.Names, kept) {
				t.Errorf("%s, %s: a result has become %s", name, told(given), told(second))
			}
			copy(whole, before)
			if third, f := answer(p); third.Abs != second.Abs || third.Dir != second.Dir || !slices.Equal(third.Names, kept) || f != e {
				t.Errorf("%s, %s: %s, %d later; want %q, %d", name, told(given), told(third), f, kept, e)
			}
		}
	}
}

// TestParseIsNewMemory: R3, paths that were parsed from one text share nothing.
func TestParseIsNewMemory(t *testing.T) {
	for _, p := range known() {
		s := []byte(text(p))
		first, second := read(t, string(s)), read(t, string(s))
		overwrite(first)
		if !same(second, p) {
			t.Errorf("Parse(%q): a result has become %s", s, told(second))
		}
		if !bytes.Equal(s, []byte(text(p))) {
			t.Errorf("Parse(%q): the text is another one", s)
		}
	}
}

// TestProperties: P4.4, parsing a text again, normalizing again, and repeating slashes change nothing.
func TestProperties(t *testing.T) {
	hold := func(s string) {
		p, e := path.Parse(s)
		if e != api.OK {
			return
		}
		shown, e := path.Show(p)
		if e != api.OK {
			t.Errorf("Show of what Parse(%q) returned: %d", brief(s), e)
		}
		wantParse(t, shown, p, api.OK)
		norm, e := path.Norm(p)
		if e != api.OK {
			t.Errorf("Norm(%s): %d", told(p), e)
		}
		wantNorm(t, norm, norm, api.OK)
		wantShow(t, norm, text(norm), api.OK)
		for _, n := range []int{2, 3, 10} {
			if more := strings.ReplaceAll(s, "/", strings.Repeat("/", n)); len(more) <= longestPath {
				wantParse(t, more, p, api.OK)
			}
		}
	}
	strung("/a.\xff", 8, hold)
	for _, p := range known() {
		hold(text(p))
		hold(strings.ReplaceAll(text(p), "/", "//"))
	}
}

// TestEachSlash: P4.4, a slash that is repeated at one place alone makes no difference either.
func TestEachSlash(t *testing.T) {
	for _, s := range []string{"/", "a/b", "/a/b/", "../.././a/", "/./..", "\xff/\xff", text(sized(200, true, true))} {
		p := read(t, s)
		for at := range len(s) {
			for n := 1; s[at] == '/' && len(s)+n <= longestPath; n++ {
				wantParse(t, s[:at]+strings.Repeat("/", n)+s[at:], p, api.OK)
			}
		}
	}
}

// TestNothingIsKept: R4, an answer hangs on nothing but the arguments, also not on a call that failed before.
func TestNothingIsKept(t *testing.T) {
	b := api.Path{Names: []string{"b"}}
	for range 2 {
		wantParse(t, strings.Repeat("a/", 200), api.Path{}, api.ErrNameLong)
		wantParse(t, "a/"+strings.Repeat("a", 33), api.Path{}, api.ErrNameLong)
		wantParse(t, "a/\x00", api.Path{}, api.ErrArg)
		wantShow(t, api.Path{Names: []string{"a", ""}}, "", api.ErrArg)
		wantNorm(t, api.Path{Names: []string{"a", ""}}, api.Path{}, api.ErrArg)
		wantJoin(t, b, api.Path{Names: []string{"a", ""}}, api.Path{}, api.ErrArg)
		wantJoin(t, sized(256, true, true), b, api.Path{}, api.ErrNameLong)
		wantParse(t, "b", b, api.OK)
		wantShow(t, b, "b", api.OK)
		wantNorm(t, b, b, api.OK)
		wantJoin(t, b, b, api.Path{Names: []string{"b", "b"}}, api.OK)
	}
}
