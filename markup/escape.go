package markup

import (
	"strconv"
	"strings"
)

// Escape tells s in bytes that can be printed, without those that stand around texts.
func Escape(s string) string {
	var out strings.Builder
	for i := range len(s) {
		out.WriteString(escaped(s[i]))
	}
	return out.String()
}

// Unescape tells the text of which s is the escaped one.
func Unescape(s string) (string, bool) {
	var text string
	r := reader{rest: s}
	fit := fits(func() {
		text = r.text()
		r.end()
	})
	if !fit {
		return "", false
	}
	return text, true
}

// escaped tells how b is written.
func escaped(b byte) string {
	switch b {
	case '&':
		return "&amp;"
	case '<':
		return "&lt;"
	case '>':
		return "&gt;"
	case '"':
		return "&quot;"
	}
	if b < 32 || b > 126 {
		return "&#" + strconv.Itoa(int(b)) + ";"
	}
	return string([]byte{b})
}
