package kern

import "strconv"

// lines is a state's text.
type lines []byte

// add writes a line: what it tells of, and numbers.
func (l *lines) add(what string, numbers ...int64) {
	*l = append(*l, what...)
	for _, n := range numbers {
		*l = strconv.AppendInt(append(*l, ' '), n, 10)
	}
	*l = append(*l, '\n')
}

// hexed is each byte of a text as two digits, for names may have any bytes but two in them.
func hexed(text string) string {
	const digits = "0123456789abcdef"
	out := make([]byte, 0, 2*len(text))
	for i := range len(text) {
		out = append(out, digits[text[i]>>4], digits[text[i]&15])
	}
	return string(out)
}
