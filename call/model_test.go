package call_test

import (
	"encoding/binary"
	"fmt"
	"math"
	"strings"
	"testing"

	"hayward/api"
	"hayward/call"
)

const (
	least      = math.MinInt64
	greatest   = math.MaxInt64
	mostFrame  = 8192
	longest    = 1048576 // bytes of a reply's longest string
	firstNoInt = 1 << 31 // the first code that no frame has
)

// shapeOf is the chapter's table.
func shapeOf(no int64) (string, bool) {
	switch no {
	case 25:
		return "", true
	case 2, 3, 8, 18, 20, 21, 22, 24:
		return "n", true
	case 4, 7, 16, 19, 23:
		return "nn", true
	case 6, 15, 17:
		return "nnn", true
	case 1:
		return "tn", true
	case 5:
		return "nt", true
	case 9, 10, 12, 14:
		return "t", true
	case 11, 13:
		return "tt", true
	}
	return "", false
}

// numbered and lettered are the encodings of chapter 2, by the library.
func numbered(n uint64) string {
	return string(binary.LittleEndian.AppendUint64(nil, n))
}

func lettered(s string) string {
	return string(binary.LittleEndian.AppendUint32(nil, uint32(len(s)))) + s
}

// frameOf is P16.2 word by word: the elements that are used are counted ahead, and the others looked at.
func frameOf(c api.Call) (string, api.Errno) {
	shape, ok := shapeOf(int64(c.No))
	if !ok {
		return "", api.ErrNoSys
	}
	for i, n := range c.N {
		if i >= strings.Count(shape, "n") && n != 0 {
			return "", api.ErrArg
		}
	}
	for i, s := range c.S {
		if i >= strings.Count(shape, "t") && len(s) != 0 {
			return "", api.ErrArg
		}
	}
	out := numbered(uint64(c.No))
	for i := range shape {
		if shape[i] == 'n' {
			out += numbered(uint64(c.N[strings.Count(shape[:i], "n")]))
		} else {
			out += lettered(c.S[strings.Count(shape[:i], "t")])
		}
	}
	if len(out) > mostFrame {
		return "", api.ErrArg
	}
	return out, api.OK
}

// callOf is P16.3: a guess of the call, whose frame must be s.
func callOf(s string) (api.Call, api.Errno) {
	if len(s) > mostFrame || len(s) < 8 {
		return api.Call{}, api.ErrArg
	}
	no := binary.LittleEndian.Uint64([]byte(s))
	shape, ok := shapeOf(int64(no))
	if !ok {
		return api.Call{}, api.ErrNoSys
	}
	c := api.Call{No: int(no)}
	rest, numbers, texts := s[8:], 0, 0
	for _, letter := range []byte(shape) {
		if letter == 'n' {
			var eight [8]byte
			rest = rest[copy(eight[:], rest):]
			c.N[numbers] = int64(binary.LittleEndian.Uint64(eight[:]))
			numbers++
			continue
		}
		var four [4]byte
		rest = rest[copy(four[:], rest):]
		n := min(int64(binary.LittleEndian.Uint32(four[:])), int64(len(rest)))
		c.S[texts], rest = rest[:n], rest[n:]
		texts++
	}
	if frame, e := frameOf(c); e != api.OK || frame != s {
		return api.Call{}, api.ErrArg
	}
	return c, api.OK
}

// replyFrameOf and replyOf are P16.4, in the same way.
func replyFrameOf(r api.Reply) (string, api.Errno) {
	if r.Code < 0 || len(r.S) > longest {
		return "", api.ErrArg
	}
	return numbered(uint64(r.Code)) + numbered(uint64(r.N)) + lettered(r.S), api.OK
}

func replyOf(s string) (api.Reply, api.Errno) {
	if len(s) < 20 {
		return api.Reply{}, api.ErrArg
	}
	code := binary.LittleEndian.Uint64([]byte(s))
	r := api.Reply{Code: api.Errno(code), N: int64(binary.LittleEndian.Uint64([]byte(s[8:]))), S: s[20:]}
	if frame, e := replyFrameOf(r); e != api.OK || code >= firstNoInt || frame != s {
		return api.Reply{}, api.ErrArg
	}
	return r, api.OK
}

// brief writes a string with no more than its beginning.
func brief(s string) string {
	if len(s) > 40 {
		return fmt.Sprintf("%x.. (%d bytes)", s[:40], len(s))
	}
	return fmt.Sprintf("%x", s)
}

func briefCall(c api.Call) string {
	return fmt.Sprintf("call %d of %d and %s, %s", c.No, c.N, brief(c.S[0]), brief(c.S[1]))
}

func briefReply(r api.Reply) string {
	return fmt.Sprintf("reply %d, %d, %s", int(r.Code), r.N, brief(r.S))
}

// encoded holds Encode against the model; what has a frame must be what that frame is decoded to.
func encoded(t *testing.T, c api.Call) string {
	t.Helper()
	want, wantE := frameOf(c)
	got, e := call.Encode(c)
	if got != want || e != wantE {
		t.Fatalf("Encode(%s): %s, %d; want %s, %d", briefCall(c), brief(got), e, brief(want), wantE)
	}
	if e == api.OK {
		if back, e := call.Decode(got); back != c || e != api.OK {
			t.Fatalf("Decode of the frame of %s: %s, %d", briefCall(c), briefCall(back), e)
		}
	}
	return got
}

// decoded holds Decode against the model; what is a frame must be the frame of what it is decoded to.
func decoded(t *testing.T, s string) api.Errno {
	t.Helper()
	want, wantE := callOf(s)
	got, e := call.Decode(s)
	if got != want || e != wantE {
		t.Fatalf("Decode(%s): %s, %d; want %s, %d", brief(s), briefCall(got), e, briefCall(want), wantE)
	}
	if e == api.OK {
		if back, e := call.Encode(got); back != s || e != api.OK {
			t.Fatalf("Encode of the call of %s: %s, %d", brief(s), brief(back), e)
		}
	}
	return e
}

// encodedReply and decodedReply hold replies so. Only codes below 2^31 come back.
func encodedReply(t *testing.T, r api.Reply) string {
	t.Helper()
	want, wantE := replyFrameOf(r)
	got, e := call.EncodeReply(r)
	if got != want || e != wantE {
		t.Fatalf("EncodeReply(%s): %s, %d; want %s, %d", briefReply(r), brief(got), e, brief(want), wantE)
	}
	if e == api.OK && r.Code < firstNoInt {
		if back, e := call.DecodeReply(got); back != r || e != api.OK {
			t.Fatalf("DecodeReply of the frame of %s: %s, %d", briefReply(r), briefReply(back), e)
		}
	}
	return got
}

func decodedReply(t *testing.T, s string) api.Errno {
	t.Helper()
	want, wantE := replyOf(s)
	got, e := call.DecodeReply(s)
	if got != want || e != wantE {
		t.Fatalf("DecodeReply(%s): %s, %d; want %s, %d", brief(s), briefReply(got), e, briefReply(want), wantE)
	}
	if e == api.OK {
		if back, e := call.EncodeReply(got); back != s || e != api.OK {
			t.Fatalf("EncodeReply of the reply of %s: %s, %d", brief(s), brief(back), e)
		}
	}
	return e
}
