package change

import "strings"

const (
	mark   = '"'
	escape = '\\'
	digits = "0123456789abcdef"
)

// Quote tells s between quotation marks, in bytes that can be printed.
func Quote(s string) string {
	out := []byte{mark}
	for i := range len(s) {
		if isPlain(s[i]) {
			out = append(out, s[i])
		} else {
			out = append(out, escape, digits[s[i]/16], digits[s[i]%16])
		}
	}
	return string(append(out, mark))
}

// Unquote tells the text of which s is the quoted one.
func Unquote(s string) (string, bool) {
	if len(s) < 2 || s[0] != mark || s[len(s)-1] != mark {
		return "", false
	}
	var out []byte
	for rest := s[1 : len(s)-1]; rest != ""; {
		b, n := readByte(rest)
		if n == 0 {
			return "", false
		}
		out = append(out, b)
		rest = rest[n:]
	}
	return string(out), true
}

// isPlain tells whether b stands for itself in a quoted text.
func isPlain(b byte) bool {
	return b >= 32 && b <= 126 && b != mark && b != escape
}

// readByte tells the first byte of what is quoted, and how many bytes it is written in; 0, if there is none.
func readByte(s string) (byte, int) {
	if isPlain(s[0]) {
		return s[0], 1
	}
	if s[0] != escape || len(s) < 3 {
		return 0, 0
	}
	high, low := strings.IndexByte(digits, s[1]), strings.IndexByte(digits, s[2])
	if high < 0 || low < 0 {
		return 0, 0
	}
	b := byte(16*high + low)
	// A byte that stands for itself is written in no other way, so that a text has one quoted one.
	if isPlain(b) {
		return 0, 0
	}
	return b, 3
}
