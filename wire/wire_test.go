package wire_test

import (
	"bytes"
	"encoding/binary"
	"math"
	"math/rand"
	"strings"
	"testing"

	"hayward/api"
	"hayward/wire"
)

// The signatures are part of the chapter.
var (
	_ func(b []byte, n uint64) []byte                       = wire.Number
	_ func(b []byte, s string) ([]byte, api.Errno)          = wire.Text
	_ func(b []byte, at int) (uint64, int, api.Errno)       = wire.TakeNumber
	_ func(b []byte, at, most int) (string, int, api.Errno) = wire.TakeText
)

const (
	longest = 1048576 // bytes of the longest string that is encoded
	all     = math.MaxUint64
)

// numbers have each bit alone, each byte alone, and borders.
func numbers() []uint64 {
	out := []uint64{0, 258, 1<<31 - 1, 1<<32 - 1, 1<<63 - 1, all - 1, all, 0x0123456789ABCDEF, 0xFEDCBA9876543210}
	for i := range 64 {
		out = append(out, 1<<i, ^uint64(1<<i))
	}
	for i := range 8 {
		out = append(out, 0xFF<<(8*i), 0x80<<(8*i))
	}
	return out
}

// texts are strings of all kinds of bytes, with lengths at the borders of the bytes that tell a length.
func texts() []string {
	every := make([]byte, 256)
	for i := range every {
		every[i] = byte(i)
	}
	out := []string{"", "a", "ab", "abc", "\x00", "\x00\x00\x00\x00", "\xff\xfe", "é€", "a\nb\"", string(every)}
	for _, n := range []int{7, 8, 255, 256, 257, 65535, 65536, 65537, longest - 1, longest} {
		out = append(out, strings.Repeat("xyz\x00", n/4+1)[:n])
	}
	return out
}

// starts are what stands ahead of an encoding: nothing, and bytes with and without spare capacity.
func starts() [][]byte {
	return [][]byte{nil, {}, make([]byte, 0, 64), []byte("a"), []byte("\x00\xff\x01"), append(make([]byte, 0, 64), "spare"...), bytes.Repeat([]byte("long"), 300)}
}

// encodedNumber and encodedText are the chapter's words, by the library.
func encodedNumber(n uint64) []byte {
	return binary.LittleEndian.AppendUint64(nil, n)
}

func encodedText(s string) []byte {
	return append(binary.LittleEndian.AppendUint32(nil, uint32(len(s))), s...)
}

// joined is the parts one after the other.
func joined(parts ...[]byte) []byte {
	return bytes.Join(parts, nil)
}

// wantNumber and wantText hold what was taken against what is wanted; with an error, nothing stands beside it.
func wantNumber(t *testing.T, b []byte, at int, n uint64, after int, e api.Errno) {
	t.Helper()
	if gn, ga, ge := wire.TakeNumber(b, at); gn != n || ga != after || ge != e {
		t.Errorf("TakeNumber(%s, %d): %#x, %d, %d; want %#x, %d, %d", brief(b), at, gn, ga, ge, n, after, e)
	}
}

func wantText(t *testing.T, b []byte, at, most int, s string, after int, e api.Errno) {
	t.Helper()
	if gs, ga, ge := wire.TakeText(b, at, most); gs != s || ga != after || ge != e {
		t.Errorf("TakeText(%s, %d, %d): %s, %d, %d; want %s, %d, %d", brief(b), at, most, brief([]byte(gs)), ga, ge, brief([]byte(s)), after, e)
	}
}

// brief writes the first of some bytes in hexadecimal digits.
func brief(b []byte) string {
	const digits = "0123456789abcdef"
	var out strings.Builder
	for i, x := range b {
		if i == 24 {
			out.WriteString("..")
			break
		}
		out.WriteByte(digits[x>>4])
		out.WriteByte(digits[x&15])
	}
	return out.String()
}

// P2.1: the chapter's examples, and bytes ahead of the encoding.
func TestEncodeExamples(t *testing.T) {
	for _, c := range []struct {
		b    string
		n    uint64
		want string
	}{
		{"", 258, "\x02\x01\x00\x00\x00\x00\x00\x00"},
		{"", 0, "\x00\x00\x00\x00\x00\x00\x00\x00"},
		{"", all, "\xff\xff\xff\xff\xff\xff\xff\xff"},
		{"", 0x0123456789ABCDEF, "\xef\xcd\xab\x89\x67\x45\x23\x01"},
		{"", 1 << 63, "\x00\x00\x00\x00\x00\x00\x00\x80"},
		{"ab", 25, "ab\x19\x00\x00\x00\x00\x00\x00\x00"},
	} {
		if got := wire.Number([]byte(c.b), c.n); string(got) != c.want {
			t.Errorf("Number(%q, %#x): %q; want %q", c.b, c.n, got, c.want)
		}
	}
	for _, c := range []struct{ b, s, want string }{
		{"", "ab", "\x02\x00\x00\x00ab"},
		{"", "", "\x00\x00\x00\x00"},
		{"", "\x00", "\x01\x00\x00\x00\x00"},
		{"xyz", "ab", "xyz\x02\x00\x00\x00ab"},
		{"", strings.Repeat("k", 258), "\x02\x01\x00\x00" + strings.Repeat("k", 258)},
	} {
		if got, e := wire.Text([]byte(c.b), c.s); string(got) != c.want || e != api.OK {
			t.Errorf("Text(%q, %q): %q, %d; want %q", c.b, c.s, got, e, c.want)
		}
	}
}

// P2.1, R3: every start with every number and string, held against the library; nil and empty starts are equivalent.
func TestEncode(t *testing.T) {
	for _, b := range starts() {
		for _, n := range numbers() {
			if got, want := wire.Number(b, n), joined(b, encodedNumber(n)); !bytes.Equal(got, want) {
				t.Errorf("Number(%s, %#x): %s; want %s", brief(b), n, brief(got), brief(want))
			}
		}
		for _, s := range texts() {
			if got, e := wire.Text(b, s); !bytes.Equal(got, joined(b, encodedText(s))) || e != api.OK {
				t.Errorf("Text(%s, %d bytes): %s, %d", brief(b), len(s), brief(got), e)
			}
		}
	}
}

// P2.1, R2: a string of just 1048576 bytes is encoded, one of a byte more refused with nothing beside the error.
func TestLongestText(t *testing.T) {
	s := strings.Repeat("q", 4*longest)
	for _, b := range starts() {
		got, e := wire.Text(b, s[:longest])
		if !bytes.Equal(got, joined(b, []byte("\x00\x00\x10\x00"), []byte(s[:longest]))) || e != api.OK {
			t.Errorf("Text(%s, the longest): %s, %d bytes, %d", brief(b), brief(got), len(got), e)
		}
		for _, n := range []int{longest + 1, longest + 2, 2 * longest, 4 * longest} {
			if got, e := wire.Text(b, s[:n]); len(got) != 0 || e != api.ErrArg {
				t.Errorf("Text(%s, %d bytes): %d bytes, %d", brief(b), n, len(got), e)
			}
		}
	}
}

// P2.1, R3: neither the bytes of b nor its spare capacity are written into, and nothing that is returned shares memory with it or with another result.
func TestEncodingIsNewMemory(t *testing.T) {
	encodings := map[string]func(b []byte) []byte{
		"Number": func(b []byte) []byte { return wire.Number(b, all) },
		"Text":   func(b []byte) []byte { out, _ := wire.Text(b, "abc"); return out },
		"empty":  func(b []byte) []byte { out, _ := wire.Text(b, ""); return out },
		"long":   func(b []byte) []byte { out, _ := wire.Text(b, strings.Repeat("a", longest+1)); return out },
	}
	for name, encode := range encodings {
		for _, n := range []int{0, 1, 3, 4, 5, 7, 8, 9, 60, 64} {
			whole := bytes.Repeat([]byte{7}, 64)
			b := whole[:n]
			first, second := encode(b), encode(b)
			kept := bytes.Clone(second)
			overwrite(first)
			if !bytes.Equal(whole, bytes.Repeat([]byte{7}, 64)) {
				t.Errorf("%s, %d bytes: what was handed in is now %s", name, n, brief(whole))
			}
			overwrite(whole)
			if !bytes.Equal(second, kept) {
				t.Errorf("%s, %d bytes: a result has become %s", name, n, brief(second))
			}
		}
	}
}

// overwrite changes all bytes of b, and those of its spare capacity.
func overwrite(b []byte) {
	b = b[:cap(b)]
	for i := range b {
		b[i] = ^b[i]
	}
}

// P2.2: the chapter's examples, and indexes at both borders.
func TestTakeNumberExamples(t *testing.T) {
	b := []byte("\x02\x01\x00\x00\x00\x00\x00\x00\x03")
	for _, c := range []struct {
		b     []byte
		at    int
		n     uint64
		after int
		e     api.Errno
	}{
		{b[:7], 0, 0, 0, api.ErrWireByte},
		{b[:7], -1, 0, 0, api.ErrWireByte},
		{b[:8], 0, 258, 8, api.OK},
		{b, 0, 258, 8, api.OK},
		{b, 1, 3<<56 | 1, 9, api.OK},
		{b, 2, 0, 0, api.ErrWireByte},
		{b, -1, 0, 0, api.ErrWireByte},
		{b, 8, 0, 0, api.ErrWireByte},
		{b, 9, 0, 0, api.ErrWireByte},
		{b, 10, 0, 0, api.ErrWireByte},
		{nil, 0, 0, 0, api.ErrWireByte},
		{nil, 1, 0, 0, api.ErrWireByte},
		{nil, -1, 0, 0, api.ErrWireByte},
		{[]byte{}, 0, 0, 0, api.ErrWireByte},
	} {
		wantNumber(t, c.b, c.at, c.n, c.after, c.e)
	}
}

// P2.3: the chapter's examples, lengths at the borders of most and of what is left, and indexes at both borders.
func TestTakeTextExamples(t *testing.T) {
	b := []byte("\x02\x00\x00\x00abc")
	for _, c := range []struct {
		b        []byte
		at, most int
		s        string
		after    int
		e        api.Errno
	}{
		{b, 0, 2, "ab", 6, api.OK},
		{b, 0, 1, "", 0, api.ErrWireByte},
		{b, 0, 3, "ab", 6, api.OK},
		{b, 0, 0, "", 0, api.ErrWireByte},
		{b, 0, -1, "", 0, api.ErrWireByte},
		{b, 0, math.MaxInt, "ab", 6, api.OK},
		{b, 0, math.MinInt, "", 0, api.ErrWireByte},
		{b[:6], 0, 2, "ab", 6, api.OK},
		{b[:5], 0, 2, "", 0, api.ErrWireByte},
		{b[:4], 0, 2, "", 0, api.ErrWireByte},
		{b[:3], 0, 2, "", 0, api.ErrWireByte},
		{b, -1, 2, "", 0, api.ErrWireByte},
		{b, 3, 9, "", 0, api.ErrWireByte},
		{b, 4, 9, "", 0, api.ErrWireByte},
		{b, 7, 9, "", 0, api.ErrWireByte},
		{b, 8, 9, "", 0, api.ErrWireByte},
		{[]byte("\x00\x00\x00\x00"), 0, 0, "", 4, api.OK},
		{[]byte("\x00\x00\x00\x00"), 0, -1, "", 0, api.ErrWireByte},
		{[]byte("\x00\x00\x00\x00"), 0, math.MinInt, "", 0, api.ErrWireByte},
		{[]byte("\x00\x00\x00\x00"), 1, 0, "", 0, api.ErrWireByte},
		{[]byte("k\x00\x00\x00\x00"), 1, 0, "", 5, api.OK},
		{[]byte("k\x01\x00\x00\x00z"), 1, 1, "z", 6, api.OK},
		{nil, 0, 0, "", 0, api.ErrWireByte},
		{nil, 1, 0, "", 0, api.ErrWireByte},
		{nil, -1, 0, "", 0, api.ErrWireByte},
	} {
		wantText(t, c.b, c.at, c.most, c.s, c.after, c.e)
	}
}

// P2.2, P2.3, R1, R6: an index that is negative or behind the end is refused without a panic, also where a sum with it would wrap round.
func TestWrongIndexes(t *testing.T) {
	for _, b := range [][]byte{nil, {}, make([]byte, 7), make([]byte, 8), make([]byte, 9), make([]byte, 0, 32), make([]byte, 100)} {
		wrong := []int{-1, -2, -4, -8, -len(b) - 1, math.MinInt, math.MinInt + 1, math.MinInt + 8, math.MinInt + len(b)}
		wrong = append(wrong, len(b)+1, len(b)+2, len(b)+8, math.MaxInt, math.MaxInt-1, math.MaxInt-3, math.MaxInt-4, math.MaxInt-7, math.MaxInt-8)
		wrong = append(wrong, math.MinInt32, 1<<32, -1<<32, 1<<32+1) // cut to 32 bits, some would be valid
		for _, at := range wrong {
			wantNumber(t, b, at, 0, 0, api.ErrWireByte)
			for _, most := range []int{-1, 0, 1, 100, math.MaxInt, math.MinInt} {
				wantText(t, b, at, most, "", 0, api.ErrWireByte)
			}
		}
	}
}

// P2.2, P2.3: how many bytes are left decides: eight of a number, four of a length.
func TestBytesLeft(t *testing.T) {
	for ahead := range 20 {
		for left := range 20 {
			b := make([]byte, ahead+left)
			if left >= 8 {
				wantNumber(t, b, ahead, 0, ahead+8, api.OK)
			} else {
				wantNumber(t, b, ahead, 0, 0, api.ErrWireByte)
			}
			if left >= 4 {
				wantText(t, b, ahead, 0, "", ahead+4, api.OK)
			} else {
				wantText(t, b, ahead, 0, "", 0, api.ErrWireByte)
			}
		}
	}
}

// P2.3: a length that is just most, or just what is left, is taken; one more is not, whichever of the two is smaller.
func TestLengths(t *testing.T) {
	const text = "abcdefghij"
	for ahead := range 3 {
		for size := range 12 {
			for left := range len(text) + 1 {
				b := joined(make([]byte, ahead), binary.LittleEndian.AppendUint32(nil, uint32(size)), []byte(text[:left]))
				for most := -2; most <= 12; most++ {
					if size <= most && size <= left {
						wantText(t, b, ahead, most, text[:size], ahead+4+size, api.OK)
					} else {
						wantText(t, b, ahead, most, "", 0, api.ErrWireByte)
					}
				}
			}
		}
	}
}

// P2.3: each of the four bytes of a length counts, also the highest bit, which is no sign.
func TestGreatLengths(t *testing.T) {
	for _, size := range []uint32{11, 255, 256, 1 << 8, 1 << 16, 1 << 24, 1 << 31, 1<<31 - 1, 1<<31 + 3, 1<<32 - 1, 1<<32 - 4, 1<<32 - 8, 1<<32 - 14, 3 << 24, 3 << 16, 3 << 8} {
		b := append(binary.LittleEndian.AppendUint32(nil, size), "abcdefghij"...)
		for _, most := range []int{-1, 0, 3, 10, int(size) - 1, int(size), int(size) + 1, math.MaxInt32, math.MaxUint32, 1 << 32, math.MaxInt, math.MinInt} {
			wantText(t, b, 0, most, "", 0, api.ErrWireByte)
		}
	}
	for _, size := range []int{255, 256, 65536, 1<<16 + 1<<8 + 1, longest - 1, longest, longest + 1, 1 << 24, 1<<24 + 1} {
		b := append(binary.LittleEndian.AppendUint32(nil, uint32(size)), bytes.Repeat([]byte{'k'}, size+1)...)
		s := string(b[4 : 4+size])
		for _, most := range []int{size, size + 1, math.MaxInt32, 1 << 32, math.MaxInt} {
			wantText(t, b, 0, most, s, 4+size, api.OK)
			wantText(t, b[:4+size], 0, most, s, 4+size, api.OK)
			wantText(t, b[:3+size], 0, most, "", 0, api.ErrWireByte)
		}
		wantText(t, b, 0, size-1, "", 0, api.ErrWireByte)
	}
}

// wanted decodes a string by the chapter's words alone; only for short b, and for numbers whose sums don't wrap.
func wanted(b []byte, at, most int) (string, int, api.Errno) {
	if at < 0 || at > len(b) || len(b)-at < 4 {
		return "", 0, api.ErrWireByte
	}
	size := uint64(0)
	for i := 3; i >= 0; i-- {
		size = size*256 + uint64(b[at+i])
	}
	if most < 0 || size > uint64(most) || size > uint64(len(b)-at-4) {
		return "", 0, api.ErrWireByte
	}
	return string(b[at+4 : at+4+int(size)]), at + 4 + int(size), api.OK
}

// P2.3: all short strings of few bytes, at all indexes, with all small values of most.
func TestEveryShortText(t *testing.T) {
	const alphabet = "\x00\x01\x02\xff"
	var visit func(b []byte)
	visit = func(b []byte) {
		for at := -1; at <= len(b)+1; at++ {
			for most := -1; most <= 3; most++ {
				s, after, e := wanted(b, at, most)
				wantText(t, b, at, most, s, after, e)
			}
		}
		if len(b) < 7 {
			for i := range len(alphabet) {
				visit(joined(b, []byte{alphabet[i]}))
			}
		}
	}
	visit(nil)
}

// P2.2, P2.3, R3: bytes of the spare capacity are neither read nor written, nor are those of b written; a string doesn't share b's memory.
func TestDecodingLeavesItsInput(t *testing.T) {
	whole := joined(encodedText("abc"), encodedNumber(all), []byte("rest"))
	before := bytes.Clone(whole)
	for n := range len(whole) + 1 {
		b := whole[:n]
		for at := -1; at <= n+1; at++ {
			wire.TakeNumber(b, at)
			wire.TakeText(b, at, 100)
		}
	}
	wantNumber(t, whole[:14], 7, 0, 0, api.ErrWireByte)
	wantNumber(t, whole[:15], 7, all, 15, api.OK)
	wantText(t, whole[:6], 0, 3, "", 0, api.ErrWireByte)
	wantText(t, whole[:3], 0, 3, "", 0, api.ErrWireByte)
	s, _, _ := wire.TakeText(whole, 0, 3)
	if !bytes.Equal(whole, before) {
		t.Errorf("what was handed in is now %s", brief(whole))
	}
	overwrite(whole)
	if s != "abc" {
		t.Errorf("a result has become %q", s)
	}
}

// P2.4: an encoded number or string is decoded unchanged, whatever stands ahead of it and after it.
func TestDecodingWhatIsEncoded(t *testing.T) {
	tails := [][]byte{nil, {0}, {0xFF}, []byte("tail"), bytes.Repeat([]byte{0xFF}, 20)}
	for _, b := range starts() {
		for _, n := range numbers() {
			for _, tail := range tails {
				wantNumber(t, joined(wire.Number(b, n), tail), len(b), n, len(b)+8, api.OK)
			}
		}
		for _, s := range texts() {
			for _, tail := range tails {
				encoded, e := wire.Text(b, s)
				if e != api.OK {
					t.Fatalf("Text(%s, %d bytes): %d", brief(b), len(s), e)
				}
				encoded = joined(encoded, tail)
				wantText(t, encoded, len(b), len(s), s, len(b)+4+len(s), api.OK)
				wantText(t, encoded, len(b), math.MaxInt, s, len(b)+4+len(s), api.OK)
				wantText(t, encoded, len(b), len(s)-1, "", 0, api.ErrWireByte)
			}
		}
	}
}

// P2.4: no proper prefix of an encoding is decoded.
func TestPrefixes(t *testing.T) {
	number := wire.Number(nil, 258)
	for n := range number {
		wantNumber(t, number[:n], 0, 0, 0, api.ErrWireByte)
	}
	text, _ := wire.Text(nil, "abcdefgh")
	for n := range text {
		wantText(t, text[:n], 0, 8, "", 0, api.ErrWireByte)
	}
}

// P2.4: numbers and strings that were laid one behind the other are taken one behind the other, and nothing is left.
func TestSequences(t *testing.T) {
	random := rand.New(rand.NewSource(1))
	for range 300 {
		var b []byte
		var order []any
		for range random.Intn(12) {
			if random.Intn(2) == 0 {
				n := random.Uint64() >> random.Intn(64)
				b, order = wire.Number(b, n), append(order, n)
				continue
			}
			s := make([]byte, random.Intn(300))
			random.Read(s)
			b, _ = wire.Text(b, string(s))
			order = append(order, string(s))
		}
		at := 0
		for _, x := range order {
			switch x := x.(type) {
			case uint64:
				wantNumber(t, b, at, x, at+8, api.OK)
				at += 8
			case string:
				wantText(t, b, at, 300, x, at+4+len(x), api.OK)
				at += 4 + len(x)
			}
		}
		if at != len(b) {
			t.Errorf("%d bytes are left", len(b)-at)
		}
	}
}

// R4: an answer depends on nothing but the arguments, also not on a call that failed before.
func TestNothingIsKept(t *testing.T) {
	b := []byte("\x02\x00\x00\x00abc")
	for range 2 {
		wantText(t, b, 0, 1, "", 0, api.ErrWireByte)
		wantNumber(t, b, 0, 0, 0, api.ErrWireByte)
		if got, e := wire.Text(b, strings.Repeat("a", longest+1)); len(got) != 0 || e != api.ErrArg {
			t.Errorf("Text: %d bytes, %d", len(got), e)
		}
		wantText(t, b, 0, 2, "ab", 6, api.OK)
		if got := wire.Number(nil, 258); !bytes.Equal(got, encodedNumber(258)) {
			t.Errorf("Number: %s", brief(got))
		}
	}
}
