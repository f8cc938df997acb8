package call_test

import (
	"math/rand"
	"slices"
	"strings"
	"testing"

	"hayward/api"
	"hayward/call"
)

// The signatures are part of the chapter.
var (
	_ func(no int) (string, bool)           = call.Shape
	_ func(c api.Call) (string, api.Errno)  = call.Encode
	_ func(s string) (api.Call, api.Errno)  = call.Decode
	_ func(r api.Reply) (string, api.Errno) = call.EncodeReply
	_ func(s string) (api.Reply, api.Errno) = call.DecodeReply
)

// edges are numbers with each bit alone, and borders.
func edges() []int64 {
	out := []int64{0, -1, 2, 3, -2, greatest, least + 1, 0x0123456789ABCDEF, -0x0123456789ABCDEF}
	for i := range 64 {
		out = append(out, 1<<i)
	}
	return out
}

// texts are strings of all kinds of bytes; some look like parts of frames.
func texts() []string {
	every := make([]byte, 256)
	for i := range every {
		every[i] = byte(i)
	}
	return []string{"", "a", "/d/f", "\x00", "\x00\x00\x00\x00", "\xff", "é€", "\xc3", numbered(25), lettered("abc"), strings.Repeat("k", 256), string(every)}
}

// few are enough numbers and texts to put them into all elements.
func few() ([]int64, []string) {
	return []int64{0, 1, -1, 3, 1 << 31, -1 << 32, greatest, least}, []string{"", "a", "\x00", "bc\xff", strings.Repeat("z", 300)}
}

// samples are calls of each number whose elements are used, with few numbers and texts.
func samples() []api.Call {
	ns, ss := few()
	var out []api.Call
	for no := range 26 {
		shape, ok := shapeOf(int64(no))
		if !ok {
			continue
		}
		made := []api.Call{{No: no}}
		for i := range strings.Count(shape, "n") {
			made = each(made, ns, func(c *api.Call, n int64) { c.N[i] = n })
		}
		for i := range strings.Count(shape, "t") {
			made = each(made, ss, func(c *api.Call, s string) { c.S[i] = s })
		}
		out = append(out, made...)
	}
	return out
}

// each is every call with every value in it.
func each[V any](calls []api.Call, values []V, put func(*api.Call, V)) []api.Call {
	var out []api.Call
	for _, c := range calls {
		for _, v := range values {
			put(&c, v)
			out = append(out, c)
		}
	}
	return out
}

func replies() []api.Reply {
	var out []api.Reply
	for _, code := range []api.Errno{0, 1, 2, 11, 28, 108, 255, 256, 1 << 16, 1<<31 - 1} {
		for _, n := range edges() {
			for _, s := range texts() {
				out = append(out, api.Reply{Code: code, N: n, S: s})
			}
		}
	}
	return out
}

// strange are numbers that no call has.
func strange() []int {
	out := []int{0, 26, 27, 99, 100, least, greatest}
	for no := 101; no <= 107; no++ { // those that only a kernel makes
		out = append(out, no)
	}
	for no := 0; no <= 26; no++ {
		out = append(out, -no, ^no)
		for bit := 5; bit < 64; bit++ {
			out = append(out, no|1<<bit)
		}
	}
	return out
}

// P16.1: the chapter's table by the names of the calls.
func TestShapeOfEachCall(t *testing.T) {
	for _, c := range []struct {
		no, name int
		want     string
	}{
		{1, api.COpen, "tn"}, {2, api.CClose, "n"}, {3, api.CDup, "n"}, {4, api.CRead, "nn"}, {5, api.CWrite, "nt"},
		{6, api.CSeek, "nnn"}, {7, api.CTrunc, "nn"}, {8, api.CStat, "n"}, {9, api.CMkdir, "t"}, {10, api.CRmdir, "t"},
		{11, api.CLink, "tt"}, {12, api.CUnlink, "t"}, {13, api.CRename, "tt"}, {14, api.CList, "t"}, {15, api.CMmap, "nnn"},
		{16, api.CMunmap, "nn"}, {17, api.CMprotect, "nnn"}, {18, api.CBrk, "n"}, {19, api.CWalk, "nn"}, {20, api.CSpawn, "n"},
		{21, api.CExit, "n"}, {22, api.CWait, "n"}, {23, api.CNice, "nn"}, {24, api.CLoad, "n"}, {25, api.CNext, ""},
	} {
		if got, ok := call.Shape(c.name); got != c.want || !ok || c.no != c.name {
			t.Errorf("Shape(%d), of call %d: %q, %v; want %q", c.name, c.no, got, ok, c.want)
		}
	}
}

// P16.1: no other number has a shape, however its bits look.
func TestShapeOfNoCall(t *testing.T) {
	nos := strange()
	for no := -1000; no <= 1000; no++ {
		nos = append(nos, no)
	}
	for _, no := range nos {
		want, wantOk := shapeOf(int64(no))
		if got, ok := call.Shape(no); got != want || ok != wantOk {
			t.Errorf("Shape(%d): %q, %v; want %q, %v", no, got, ok, want, wantOk)
		}
	}
}

// P16.2: the chapter's examples, and frames written out by bytes.
func TestEncodeExamples(t *testing.T) {
	zeros := strings.Repeat("\x00", 7)
	for _, c := range []struct {
		c    api.Call
		want string
		e    api.Errno
	}{
		{api.Call{No: api.CNext}, "\x19" + zeros, 0},
		{api.Call{No: api.CClose, N: [3]int64{3}}, "\x02" + zeros + "\x03" + zeros, 0},
		{api.Call{No: api.CClose}, "\x02" + zeros + "\x00" + zeros, 0},
		{api.Call{No: api.COpen, N: [3]int64{258}, S: [2]string{"ab"}}, "\x01" + zeros + "\x02\x00\x00\x00ab\x02\x01\x00\x00\x00\x00\x00\x00", 0},
		{api.Call{No: api.CWrite, N: [3]int64{258}, S: [2]string{"ab"}}, "\x05" + zeros + "\x02\x01\x00\x00\x00\x00\x00\x00\x02\x00\x00\x00ab", 0},
		{api.Call{No: api.CLink, S: [2]string{"a", "bc"}}, "\x0b" + zeros + "\x01\x00\x00\x00a\x02\x00\x00\x00bc", 0},
		{api.Call{No: api.CRename, S: [2]string{"", "b"}}, "\x0d" + zeros + "\x00\x00\x00\x00\x01\x00\x00\x00b", 0},
		{api.Call{No: api.CSeek, N: [3]int64{1, -2, 2}}, "\x06" + zeros + "\x01" + zeros + "\xfe" + strings.Repeat("\xff", 7) + "\x02" + zeros, 0},
		{api.Call{No: api.CBrk, N: [3]int64{least}}, "\x12" + zeros + zeros + "\x80", 0},
		{api.Call{No: api.CNext, N: [3]int64{1}}, "", api.ErrArg},
		{api.Call{No: api.CNext, S: [2]string{"", "a"}}, "", api.ErrArg},
		{api.Call{No: api.CClose, N: [3]int64{3, 1}}, "", api.ErrArg},
		{api.Call{No: api.CMkdir, S: [2]string{"a", "b"}}, "", api.ErrArg},
		{api.Call{No: 99}, "", api.ErrNoSys},
		{api.Call{}, "", api.ErrNoSys},
		{api.Call{No: -1}, "", api.ErrNoSys},
		{api.Call{No: api.KClone, N: [3]int64{2}}, "", api.ErrNoSys},
	} {
		if got, e := call.Encode(c.c); got != c.want || e != c.e {
			t.Errorf("Encode(%s): %s, %d; want %s, %d", briefCall(c.c), brief(got), e, brief(c.want), c.e)
		}
	}
}

// P16.2, P16.3, P16.5: each call with few numbers and texts in all that it uses, and with many in each one.
func TestEncode(t *testing.T) {
	for _, c := range samples() {
		encoded(t, c)
	}
	for no := range 26 {
		shape, _ := shapeOf(int64(no))
		for i := range strings.Count(shape, "n") {
			for _, n := range edges() {
				c := api.Call{No: no}
				c.N[i] = n
				encoded(t, c)
			}
		}
		for i := range strings.Count(shape, "t") {
			for _, s := range texts() {
				c := api.Call{No: no}
				c.S[i] = s
				encoded(t, c)
			}
		}
	}
}

// P16.2: each element that a call doesn't use, alone and with the others; those that it uses may hold anything.
func TestUnusedElements(t *testing.T) {
	refused := 0
	for no := 1; no <= 25; no++ {
		for _, used := range []api.Call{{}, {N: [3]int64{1, 2, 3}, S: [2]string{"a", "b"}}} {
			for set := range 32 {
				for _, n := range []int64{1, -1, 1 << 32, least, greatest} {
					for _, s := range []string{"x", "\x00", strings.Repeat("y", 9000)} {
						c := filled(no, used, set, n, s)
						if encoded(t, c) == "" {
							refused++
						}
					}
				}
			}
		}
	}
	if refused < 10000 {
		t.Errorf("only %d calls were refused", refused)
	}
}

// filled has n and s in the elements of a set, and what a call uses in the others.
func filled(no int, used api.Call, set int, n int64, s string) api.Call {
	shape, _ := shapeOf(int64(no))
	c := api.Call{No: no}
	for i := range c.N {
		if set>>i&1 == 1 {
			c.N[i] = n
		} else if i < strings.Count(shape, "n") {
			c.N[i] = used.N[i]
		}
	}
	for i := range c.S {
		if set>>(3+i)&1 == 1 {
			c.S[i] = s
		} else if i < strings.Count(shape, "t") {
			c.S[i] = used.S[i]
		}
	}
	return c
}

// P16.2: ErrNoSys comes ahead of ErrArg, whatever the elements are.
func TestNoSuchCallComesFirst(t *testing.T) {
	long := strings.Repeat("x", longest+1)
	for _, no := range strange() {
		for _, c := range []api.Call{{No: no}, {No: no, N: [3]int64{1, 2, 3}}, {No: no, S: [2]string{long, long}}, {No: no, N: [3]int64{0, 0, 1}, S: [2]string{"a", "b"}}} {
			if got, e := call.Encode(c); got != "" || e != api.ErrNoSys {
				t.Errorf("Encode(%s): %s, %d", briefCall(c), brief(got), e)
			}
		}
	}
}

// P16.2: a frame of just 8192 bytes is returned, one of a byte more refused; two texts have that room together.
func TestLongestFrame(t *testing.T) {
	x := strings.Repeat("xy\x00\xff", longest)
	for no := 1; no <= 25; no++ {
		shape, _ := shapeOf(int64(no))
		room := mostFrame - 8 - 8*strings.Count(shape, "n") - 4*strings.Count(shape, "t")
		for _, size := range []int{room - 2, room - 1, room, room + 1, room + 2, mostFrame, mostFrame + 1, longest - 1, longest, longest + 1, 4 * longest} {
			switch strings.Count(shape, "t") {
			case 1:
				wantSize(t, api.Call{No: no, S: [2]string{x[:size]}}, size <= room)
				wantSize(t, api.Call{No: no, N: [3]int64{-1}, S: [2]string{x[:size]}}, size <= room && shape != "t")
			case 2:
				for _, first := range []int{0, 1, 255, 256, size / 2, size - 1, size} {
					wantSize(t, api.Call{No: no, S: [2]string{x[:first], x[first:size]}}, size <= room)
				}
			}
		}
	}
}

func wantSize(t *testing.T, c api.Call, fits bool) {
	t.Helper()
	if s := encoded(t, c); (s != "") != fits || len(s) > 0 && fits && len(s) > mostFrame {
		t.Errorf("Encode(%s): %s; want one that fits: %v", briefCall(c), brief(s), fits)
	}
}

// P16.3: the chapter's examples, and orders of errors.
func TestDecodeExamples(t *testing.T) {
	zeros := strings.Repeat("\x00", 7)
	next := "\x19" + zeros
	for _, c := range []struct {
		s    string
		want api.Call
		e    api.Errno
	}{
		{zeros, api.Call{}, api.ErrArg},
		{"", api.Call{}, api.ErrArg},
		{next[:1], api.Call{}, api.ErrArg},
		{next[:7], api.Call{}, api.ErrArg},
		{"\x1a" + zeros, api.Call{}, api.ErrNoSys},
		{"\x1a" + zeros + "x", api.Call{}, api.ErrNoSys},
		{"\x00" + zeros, api.Call{}, api.ErrNoSys},
		{next + "\x00", api.Call{}, api.ErrArg},
		{next + "x", api.Call{}, api.ErrArg},
		{next + next, api.Call{}, api.ErrArg},
		{next, api.Call{No: api.CNext}, 0},
		{"\x19" + zeros[:6] + "\x01", api.Call{}, api.ErrNoSys},
		{"\x19" + zeros[:6] + "\x80", api.Call{}, api.ErrNoSys},
		{strings.Repeat("\xff", 8), api.Call{}, api.ErrNoSys},
		{"\x02" + zeros + "\x03" + zeros, api.Call{No: api.CClose, N: [3]int64{3}}, 0},
		{"\x02" + zeros + "\x03" + zeros[:6], api.Call{}, api.ErrArg},
		{"\x02" + zeros, api.Call{}, api.ErrArg},
		{"\x01" + zeros + "\x02\x00\x00\x00ab\xff" + strings.Repeat("\xff", 7), api.Call{No: api.COpen, N: [3]int64{-1}, S: [2]string{"ab"}}, 0},
		{"\x0b" + zeros + "\x01\x00\x00\x00a\x02\x00\x00\x00bc", api.Call{No: api.CLink, S: [2]string{"a", "bc"}}, 0},
		{"\x0b" + zeros + "\x01\x00\x00\x00a\x03\x00\x00\x00bc", api.Call{}, api.ErrArg},
		{"\x0b" + zeros + "\x01\x00\x00\x00a\x01\x00\x00\x00bc", api.Call{}, api.ErrArg},
		{"\x09" + zeros + "\x01\x00\x00", api.Call{}, api.ErrArg},
		{"\x09" + zeros + "\x00\x00\x00\x00", api.Call{No: api.CMkdir}, 0},
		{"\x09" + zeros + "\x00\x00\x00\x01", api.Call{}, api.ErrArg},
		{"\x09" + zeros + "\xff\xff\xff\xffab", api.Call{}, api.ErrArg},
	} {
		if got, e := call.Decode(c.s); got != c.want || e != c.e {
			t.Errorf("Decode(%s): %s, %d; want %s, %d", brief(c.s), briefCall(got), e, briefCall(c.want), c.e)
		}
	}
}

// P16.3: a string of more than 8192 bytes or fewer than 8 is ErrArg, whatever number it begins with; between them ErrNoSys comes first.
func TestDecodeOfEachSize(t *testing.T) {
	for _, first := range []uint64{0, 1, 9, 11, 25, 26, 99, 101, 1<<64 - 1} {
		s := numbered(first) + strings.Repeat("\x00", 3*mostFrame)
		_, known := shapeOf(int64(first))
		for n := range mostFrame + 300 {
			e := decoded(t, s[:n])
			switch {
			case n < 8 || n > mostFrame:
				if e != api.ErrArg {
					t.Fatalf("Decode of %d bytes, call %d: %d", n, first, e)
				}
			case !known:
				if e != api.ErrNoSys {
					t.Fatalf("Decode of %d bytes, call %d: %d", n, first, e)
				}
			}
		}
		if e := decoded(t, s); e != api.ErrArg {
			t.Errorf("Decode of %d bytes, call %d: %d", len(s), first, e)
		}
	}
}

// P16.3: one text that fills a frame of 8192 bytes, and frames that would be a byte longer.
func TestDecodeOfTheLongestFrame(t *testing.T) {
	for _, c := range []struct {
		no         uint64
		head, tail string
	}{{1, "", numbered(7)}, {5, numbered(7), ""}, {9, "", ""}, {14, "", ""}, {11, lettered("old"), ""}, {13, "", lettered("new")}} {
		room := mostFrame - 8 - len(c.head) - 4 - len(c.tail)
		for size := room - 3; size <= room+3; size++ {
			s := numbered(c.no) + c.head + lettered(strings.Repeat("q", size)) + c.tail
			if e := decoded(t, s); (e == api.OK) != (size <= room) {
				t.Errorf("Decode of %d bytes, call %d: %d", len(s), c.no, e)
			}
		}
	}
}

// P16.3: the first eight bytes are the number, with all of their bits.
func TestDecodeOfStrangeNumbers(t *testing.T) {
	rests := []string{"", "x", numbered(3), numbered(3) + numbered(4), lettered("ab"), lettered("ab") + numbered(1), strings.Repeat("r", mostFrame-8)}
	for _, no := range strange() {
		for _, rest := range rests {
			if e := decoded(t, numbered(uint64(no))+rest); e != api.ErrNoSys && no != 25 {
				t.Errorf("Decode of call %d and %s: %d", no, brief(rest), e)
			}
		}
	}
}

// P16.5: no proper prefix of a frame is one, nor a frame with bytes behind it.
func TestPrefixes(t *testing.T) {
	for _, c := range samples() {
		s := encoded(t, c)
		for n := range len(s) {
			if e := decoded(t, s[:n]); e != api.ErrArg {
				t.Fatalf("Decode of %d bytes of the frame of %s: %d", n, briefCall(c), e)
			}
		}
		for _, more := range []string{"\x00", "x", "\xff", numbered(0), lettered(""), s, strings.Repeat("m", mostFrame)} {
			if e := decoded(t, s+more); e != api.ErrArg {
				t.Fatalf("Decode of the frame of %s and %s: %d", briefCall(c), brief(more), e)
			}
		}
	}
}

// P16.5: different calls have different frames, and none begins with another one.
func TestFramesDiffer(t *testing.T) {
	var frames []string
	for _, c := range samples() {
		frames = append(frames, encoded(t, c))
	}
	prefixFree(t, frames)
}

// prefixFree holds that each string differs from all others and begins with none of them: in order, one that did would follow its prefix at once, or another one that did.
func prefixFree(t *testing.T, all []string) {
	t.Helper()
	slices.Sort(all)
	for i := 1; i < len(all); i++ {
		if strings.HasPrefix(all[i], all[i-1]) {
			t.Errorf("%s begins with %s", brief(all[i]), brief(all[i-1]))
		}
	}
}

// P16.3: the lengths of texts with every bit turned, and lengths around what is left.
func TestLengthsOfTexts(t *testing.T) {
	for _, c := range []struct {
		no         uint64
		head, tail string
	}{{1, "", numbered(7)}, {5, numbered(7), ""}, {9, "", ""}, {10, "", ""}, {12, "", ""}, {14, "", ""}, {11, "", lettered("new")}, {11, lettered("old"), ""}, {13, "", lettered("")}, {13, lettered(""), ""}} {
		for _, s := range texts() {
			for bit := range 32 {
				turned := []byte(lettered(s))
				turned[bit/8] ^= 1 << (bit % 8)
				decoded(t, numbered(c.no)+c.head+string(turned)+c.tail)
			}
			for size := range len(s) + 30 {
				length := string([]byte{byte(size), byte(size >> 8), 0, 0})
				decoded(t, numbered(c.no)+c.head+length+s+c.tail)
			}
		}
	}
}

// P16.3, T3: whatever bytes a frame becomes, it is answered as the model answers it; and a call that comes out has that frame.
func TestBrokenFrames(t *testing.T) {
	r := rand.New(rand.NewSource(16))
	frames := samples()
	tally := map[api.Errno]int{}
	for range 200000 {
		s, _ := frameOf(frames[r.Intn(len(frames))])
		b := []byte(s)
		for range 1 + r.Intn(3) {
			switch r.Intn(4) {
			case 0:
				b[r.Intn(len(b))] = byte(r.Intn(256))
			case 1:
				b[r.Intn(min(len(b), 20))] ^= 1 << r.Intn(8)
			case 2:
				b = append(b, byte(r.Intn(3)))
			case 3:
				at := r.Intn(len(b))
				if b = slices.Delete(b, at, at+1); len(b) == 0 {
					b = []byte{25}
				}
			}
		}
		tally[decoded(t, string(b))]++
	}
	for _, e := range []api.Errno{api.OK, api.ErrArg, api.ErrNoSys} {
		if tally[e] < 1000 {
			t.Errorf("answer %d came %d times", e, tally[e])
		}
	}
}

// P16.3: random bytes behind each number, so that lengths and numbers fall anyhow.
func TestRandomFrames(t *testing.T) {
	r := rand.New(rand.NewSource(61))
	found := 0
	for range 200000 {
		b := []byte(numbered(uint64(r.Intn(28))))
		for n := r.Intn(40); n > 0; n-- {
			b = append(b, byte(r.Intn(4)*r.Intn(2)*r.Intn(2)))
		}
		if decoded(t, string(b)) == api.OK {
			found++
		}
	}
	if found < 1000 {
		t.Errorf("only %d of them were frames", found)
	}
}

// P16.4: the chapter's example, and frames written out by bytes.
func TestReplyExamples(t *testing.T) {
	zeros, ones := strings.Repeat("\x00", 7), strings.Repeat("\xff", 8)
	for _, c := range []struct {
		r    api.Reply
		want string
	}{
		{api.Reply{Code: api.ErrNoEnt, N: -1, S: "abc"}, "\x0b" + zeros + ones + "\x03\x00\x00\x00abc"},
		{api.Reply{}, "\x00" + zeros + "\x00" + zeros + "\x00\x00\x00\x00"},
		{api.Reply{Code: 1<<31 - 1, N: least}, "\xff\xff\xff\x7f\x00\x00\x00\x00" + zeros + "\x80\x00\x00\x00\x00"},
		{api.Reply{N: 258, S: "\x00"}, "\x00" + zeros + "\x02\x01\x00\x00\x00\x00\x00\x00\x01\x00\x00\x00\x00"},
	} {
		s, e := call.EncodeReply(c.r)
		if s != c.want || e != api.OK {
			t.Errorf("EncodeReply(%s): %s, %d; want %s", briefReply(c.r), brief(s), e, brief(c.want))
		}
		if r, e := call.DecodeReply(c.want); r != c.r || e != api.OK {
			t.Errorf("DecodeReply(%s): %s, %d; want %s", brief(c.want), briefReply(r), e, briefReply(c.r))
		}
	}
}

// P16.4, P16.5: many replies come back from their frames, which all differ.
func TestReplies(t *testing.T) {
	var frames []string
	seen := map[api.Reply]bool{}
	for _, r := range replies() {
		if !seen[r] {
			seen[r] = true
			frames = append(frames, encodedReply(t, r))
		}
	}
	prefixFree(t, frames)
}

// P16.4: negative codes are refused, also with a string that is too long; the others have frames.
func TestCodes(t *testing.T) {
	long := strings.Repeat("x", longest+1)
	for _, code := range []api.Errno{-1, -2, -28, -firstNoInt, -firstNoInt - 1, -1 << 32, least, least + 1} {
		for _, s := range []string{"", "abc", long} {
			if got, e := call.EncodeReply(api.Reply{Code: code, N: 5, S: s}); got != "" || e != api.ErrArg {
				t.Errorf("EncodeReply with code %d: %s, %d", int(code), brief(got), e)
			}
		}
	}
	for code := api.Errno(0); code < 300; code++ {
		encodedReply(t, api.Reply{Code: code, N: -5, S: "abc"})
	}
}

// P16.4: the frame of a code of 2^31 or more is decoded to no reply, whichever of its bits are set.
func TestCodesThatNoFrameHas(t *testing.T) {
	if e := decodedReply(t, numbered(firstNoInt-1)+numbered(1)+lettered("abc")); e != api.OK {
		t.Errorf("the greatest code: %d", e)
	}
	for _, low := range []uint64{0, 1, 11, firstNoInt - 1} {
		for bit := 31; bit < 64; bit++ {
			for _, code := range []uint64{low | 1<<bit, low | 1<<63 | 1<<bit, low | ^uint64(0)<<bit} {
				for _, s := range []string{"", "abc"} {
					if e := decodedReply(t, numbered(code)+numbered(1)+lettered(s)); e != api.ErrArg {
						t.Errorf("code %#x: %d", code, e)
					}
				}
			}
		}
	}
	for _, code := range []api.Errno{firstNoInt, firstNoInt + 1, 1 << 32, greatest} {
		s := encodedReply(t, api.Reply{Code: code, N: 1, S: "abc"})
		if s != numbered(uint64(code))+numbered(1)+lettered("abc") {
			t.Errorf("EncodeReply with code %#x: %s", int(code), brief(s))
		}
	}
}

// P16.4: a string of 1048576 bytes is encoded, one of a byte more refused; a reply may be longer than a call, and a frame that says so isn't one.
func TestLongestReply(t *testing.T) {
	x := strings.Repeat("xyz\x00", longest)
	for _, size := range []int{mostFrame - 20, mostFrame - 19, mostFrame, mostFrame + 1, 65535, 65536, longest - 1, longest, longest + 1, longest + 2, 4 * longest} {
		want := api.OK
		if size > longest {
			want = api.ErrArg
		}
		if s := encodedReply(t, api.Reply{Code: 3, N: -1, S: x[:size]}); len(s) != 20+size && want == api.OK {
			t.Errorf("EncodeReply with %d bytes: %d bytes", size, len(s))
		}
		if e := decodedReply(t, numbered(3)+numbered(4)+lettered(x[:size])); e != want {
			t.Errorf("DecodeReply with %d bytes: %d", size, e)
		}
	}
}

// P16.4, P16.5: no proper prefix of a reply's frame is one, nor one with bytes behind it.
func TestReplyPrefixes(t *testing.T) {
	for _, x := range texts() {
		s := encodedReply(t, api.Reply{Code: 7, N: 1 << 40, S: x})
		for n := range len(s) {
			if e := decodedReply(t, s[:n]); e != api.ErrArg {
				t.Fatalf("DecodeReply of %d bytes of %s: %d", n, brief(s), e)
			}
		}
		for _, more := range []string{"\x00", "x", numbered(0), lettered(""), s} {
			if e := decodedReply(t, s+more); e != api.ErrArg {
				t.Fatalf("DecodeReply of %s and %s: %d", brief(s), brief(more), e)
			}
		}
		for bit := range 32 {
			b := []byte(s)
			b[16+bit/8] ^= 1 << (bit % 8)
			if e := decodedReply(t, string(b)); e != api.ErrArg {
				t.Fatalf("DecodeReply(%s): %d", brief(string(b)), e)
			}
		}
	}
}

// P16.4: whatever bytes a reply's frame becomes, it is answered as the model answers it.
func TestBrokenReplies(t *testing.T) {
	r := rand.New(rand.NewSource(4))
	all := replies()
	tally := map[api.Errno]int{}
	for range 100000 {
		s, _ := replyFrameOf(all[r.Intn(len(all))])
		b := []byte(s)
		switch r.Intn(3) {
		case 0:
			b[r.Intn(20)] = byte(r.Intn(256))
		case 1:
			b = append(b, make([]byte, r.Intn(3))...)
		case 2:
			b = b[:len(b)-r.Intn(2)]
		}
		tally[decodedReply(t, string(b))]++
	}
	if tally[api.OK] < 1000 || tally[api.ErrArg] < 1000 {
		t.Errorf("the answers: %v", tally)
	}
}

// R4: what was asked before changes no answer, in whichever order.
func TestNothingIsKept(t *testing.T) {
	r := rand.New(rand.NewSource(8))
	calls := samples()
	for range 3 {
		r.Shuffle(len(calls), func(i, j int) { calls[i], calls[j] = calls[j], calls[i] })
		for i, c := range calls {
			encoded(t, c)
			call.Shape(i)
			decoded(t, numbered(uint64(i))+"x")
			encodedReply(t, api.Reply{Code: api.Errno(i), S: c.S[0]})
		}
	}
}
