package change

import (
	"regexp"
	"strconv"
	"strings"
	"testing"
)

// P5.3

func TestQuote(t *testing.T) {
	for _, x := range []struct{ text, quoted string }{
		{"", `""`},
		{"a", `"a"`},
		{" ", `" "`},
		{"a b", `"a b"`},
		{"~!#[]", `"~!#[]"`},
		{"a\nb", `"a\0ab"`},
		{`"`, `"\22"`},
		{`\`, `"\5c"`},
		{`\0a`, `"\5c0a"`},
		{"\x00", `"\00"`},
		{"\x1f", `"\1f"`},
		{"\x7f", `"\7f"`},
		{"\x80\xff", `"\80\ff"`},
		{"\u00e4", `"\c3\a4"`},
		{"\xab\xcd\xef", `"\ab\cd\ef"`},
	} {
		if got := Quote(x.text); got != x.quoted {
			t.Errorf("%q: %s", x.text, got)
		}
		if got, ok := Unquote(x.quoted); got != x.text || !ok {
			t.Errorf("%s: %q %v", x.quoted, got, ok)
		}
	}
}

func TestQuoteOfEachByte(t *testing.T) {
	for b := range 256 {
		want := `"` + string([]byte{byte(b)}) + `"`
		if b < 32 || b > 126 || b == '"' || b == '\\' {
			digits := strconv.FormatInt(int64(b)+256, 16)[1:]
			want = `"\` + digits + `"`
		}
		s := string([]byte{byte(b)})
		if got := Quote(s); got != want {
			t.Errorf("%d: %s", b, got)
		}
		if got, ok := Unquote(want); got != s || !ok {
			t.Errorf("%s: %q %v", want, got, ok)
		}
		// Each byte between marks, and each one as a number: one of the two is read.
		plain, ok := Unquote(`"` + s + `"`)
		if ok != (len(want) == 3) || ok && plain != s {
			t.Errorf("%d for itself: %q %v", b, plain, ok)
		}
		digits := strconv.FormatInt(int64(b)+256, 16)[1:]
		number, ok := Unquote(`"\` + digits + `"`)
		if ok != (len(want) == 5) || ok && number != s {
			t.Errorf("%d as a number: %q %v", b, number, ok)
		}
	}
}

func TestUnquoteRefuses(t *testing.T) {
	for _, s := range []string{
		``, `"`, `a`, `ab`, `abc`, `"a`, `a"`, ` "a"`, `"a" `, `""a`, `a""`, `"""`, `""""`, `"a"b"`, `'a'`,
		`"\"`, `"\\"`, `"\0"`, `"\00`, `"\0a`, `"\n"`, `"\x0a"`, `"\0A"`, `"\0g"`, `"\g0"`, `"\ 0"`, `"\0 "`, `"\+1"`, `"\-1"`,
		`"\61"`, `"\20"`, `"\7e"`, `"\5C"`, `"\""`, `"a\`, `"a\"`, `"a\0"`, `\22a\22`, `"\00\"`, `"\00\0"`,
		"\"\n\"", "\"\x00\"", "\"\x7f\"", "\"\x1f\"", "\"\x80\"", "\"\u00e4\"", "\"\xff\"",
		`"` + strings.Repeat("a", 1<<20), `"` + strings.Repeat(`\00`, 1<<18) + `\0"`,
	} {
		if got, ok := Unquote(s); got != "" || ok {
			t.Errorf("%.40q: %q %v", s, got, ok)
		}
	}
}

// Neither has a bound.
func TestQuoteOfLongTexts(t *testing.T) {
	s := strings.Repeat("a\x00\"", 1<<19)
	if got, ok := Unquote(Quote(s)); got != s || !ok {
		t.Errorf("%d bytes, %v", len(got), ok)
	}
}

// Whatever short text there is: it is read just if it has the form, and is quoted so again.
func TestUnquoteReadsJustQuotedTexts(t *testing.T) {
	const signs, longest = "\"\\02af ", 7
	form := regexp.MustCompile(`^"([02af ]|\\(0[02af]|2[2]|a[02af]|f[02af]))*"$`)
	count := 0
	texts := []string{""}
	for i := 0; i < len(texts); i++ {
		s := texts[i]
		got, ok := Unquote(s)
		if ok != form.MatchString(s) || ok && Quote(got) != s || !ok && got != "" {
			t.Errorf("%q: %q %v", s, got, ok)
		}
		if ok {
			count++
		}
		// What does not begin with a mark is none, however it goes on.
		if len(s) == longest || len(s) > 1 && s[0] != '"' {
			continue
		}
		for _, sign := range []byte(signs) {
			texts = append(texts, s+string([]byte{sign}))
		}
	}
	if count < 1000 {
		t.Errorf("%d texts", count)
	}
}

// P5.5

func FuzzUnquote(f *testing.F) {
	for _, s := range []string{``, `""`, `"a b"`, `"\0a\22\5c\ff"`, `"\61"`, "\x00\xff"} {
		f.Add(s)
	}
	f.Fuzz(func(t *testing.T, s string) {
		if got, ok := Unquote(Quote(s)); got != s || !ok {
			t.Errorf("%q: %q %v", s, got, ok)
		}
		if got, ok := Unquote(s); ok && Quote(got) != s || !ok && got != "" {
			t.Errorf("%q: %q %v", s, got, ok)
		}
	})
}
