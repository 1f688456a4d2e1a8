package markup

import (
	"math/rand"
	"regexp"
	"strconv"
	"strings"
	"testing"
)

// The model: the chapter's words in their plainest form.

func plainByte(b byte) string {
	switch {
	case b == 38:
		return "&amp;"
	case b == 60:
		return "&lt;"
	case b == 62:
		return "&gt;"
	case b == 34:
		return "&quot;"
	case b < 32, b > 126:
		return "&#" + strconv.Itoa(int(b)) + ";"
	}
	return string(rune(b))
}

func plainEscape(s string) string {
	out := ""
	for _, b := range []byte(s) {
		out += plainByte(b)
	}
	return out
}

const charForm = `(?:[ !#-%'-;=?-~]|&(?:amp|lt|gt|quot|#(?:[0-9]|[12][0-9]|3[01]|12[7-9]|1[3-9][0-9]|2[0-4][0-9]|25[0-5]));)`

var (
	escapedForm = regexp.MustCompile(`^` + charForm + `*$`)
	charsOf     = regexp.MustCompile(charForm)
)

// plainBytes tells of each way to write a byte which one it is.
var plainBytes = func() map[string]byte {
	out := map[string]byte{}
	for b := range 256 {
		out[plainByte(byte(b))] = byte(b)
	}
	return out
}()

func plainUnescape(s string) (string, bool) {
	if !escapedForm.MatchString(s) {
		return "", false
	}
	var out []byte
	for _, char := range charsOf.FindAllString(s, -1) {
		out = append(out, plainBytes[char])
	}
	return string(out), true
}

func wantUnescaped(t testing.TB, s string) {
	t.Helper()
	want, wantOK := plainUnescape(s)
	if got, ok := Unescape(s); got != want || ok != wantOK {
		t.Errorf("Unescape(%.60q): %.60q %v, want %.60q %v", s, got, ok, want, wantOK)
	}
}

// wantThereAndBack asks for P20.5 and the last of P20.3, too.
func wantThereAndBack(t testing.TB, s string) {
	t.Helper()
	e := Escape(s)
	if want := plainEscape(s); e != want {
		t.Errorf("Escape(%.60q): %.60q, want %.60q", s, e, want)
	}
	for _, b := range []byte(e) {
		if b == '<' || b == '>' || b == '"' || b < 32 || b > 126 {
			t.Errorf("Escape(%.60q) has the byte %d", s, b)
		}
	}
	if back, ok := Unescape(e); back != s || !ok {
		t.Errorf("Unescape(%.60q): %.60q %v, want %.60q", e, back, ok, s)
	}
}

// P20.1: Escape, Unescape

func TestEscapeByHand(t *testing.T) {
	for s, want := range map[string]string{
		"":              "",
		"a":             "a",
		"a b":           "a b",
		"a<b":           "a&lt;b",
		"&<>\"":         "&amp;&lt;&gt;&quot;",
		"&amp;":         "&amp;amp;",
		"&#65;":         "&amp;#65;",
		"'`\\/;#=":      "'`\\/;#=",
		"\x00":          "&#0;",
		"\t\n\r":        "&#9;&#10;&#13;",
		"\x1f ~\x7f":    "&#31; ~&#127;",
		"\x80\xff":      "&#128;&#255;",
		"\u00e4":        "&#195;&#164;",
		"\U0001f333":    "&#240;&#159;&#140;&#179;",
		"\xc3":          "&#195;",
		"\u2028":        "&#226;&#128;&#168;",
		"1\n2":          "1&#10;2",
		"\n1;":          "&#10;1;",
		"\xef\xbf\xbd":  "&#239;&#191;&#189;",
		"<p #1.0></p>":  "&lt;p #1.0&gt;&lt;/p&gt;",
		"class=\"x\" b": "class=&quot;x&quot; b",
	} {
		if got := Escape(s); got != want {
			t.Errorf("Escape(%q): %q, want %q", s, got, want)
		}
		if got, ok := Unescape(want); got != s || !ok {
			t.Errorf("Unescape(%q): %q %v", want, got, ok)
		}
	}
}

func TestEscapeOfAllShortTexts(t *testing.T) {
	wantThereAndBack(t, "")
	for a := range 256 {
		wantThereAndBack(t, string([]byte{byte(a)}))
		for b := range 256 {
			wantThereAndBack(t, string([]byte{byte(a), byte(b)}))
		}
	}
}

func TestEscapeOfManyTexts(t *testing.T) {
	p := rand.New(rand.NewSource(1))
	for range 2000 {
		b := make([]byte, p.Intn(300))
		p.Read(b)
		wantThereAndBack(t, string(b))
	}
}

// There is no bound: a text may be longer than one that is parsed.
func TestEscapeOfLongTexts(t *testing.T) {
	const n = 1 << 19
	long := strings.Repeat("\xff", n)
	e := Escape(long)
	if e != strings.Repeat("&#255;", n) {
		t.Errorf("%d bytes", len(e))
	}
	if back, ok := Unescape(e); back != long || !ok {
		t.Errorf("%d bytes, %v", len(back), ok)
	}
	if back, ok := Unescape(e + "&"); back != "" || ok {
		t.Errorf("%d bytes, %v", len(back), ok)
	}
}

func TestUnescapeRefuses(t *testing.T) {
	for _, s := range []string{
		"<", ">", "\"", "&", ";&", "a<b", "a>b", "a\"b", "a&b", "&&amp;", "&amp;&",
		"\x00", "\n", "\x1f", "\x7f", "\x80", "\xff", "\u00e4", "a\nb",
		"&;", "&a;", "&amp", "&am;", "&ampp;", "&amp ;", "& amp;", "&AMP;", "&Lt;", "&gt:", "&quo;", "&apos;", "&nbsp;", "&lt;&gt", "&amp\n;",
		"&#;", "&#", "&#1", "&#10", "#10;&", "&10;", "&##10;", "&#amp;", "&#&#10;;",
		"&#00;", "&#01;", "&#010;", "&#0255;", "&#+10;", "&#-1;", "&#-0;", "&# 10;", "&#10 ;", "&#1_0;", "&#x0a;", "&#xa;", "&#1.0;", "&#1e1;", "&#\u0661;",
		"&#32;", "&#33;", "&#34;", "&#38;", "&#60;", "&#62;", "&#65;", "&#126;",
		"&#256;", "&#257;", "&#266;", "&#522;", "&#-246;", "&#65536;", "&#4294967306;", "&#18446744073709551626;", "&#" + strings.Repeat("9", 100000) + ";", "&#" + strings.Repeat("0", 100000) + "1;",
		"&amp;\n", "\n&amp;", "&amp;<", "abc&#65;",
	} {
		if got, ok := Unescape(s); got != "" || ok {
			t.Errorf("Unescape(%.60q): %q %v", s, got, ok)
		}
	}
}

func TestUnescapeOfAllNumbers(t *testing.T) {
	for n := -300; n <= 3000; n++ {
		wantUnescaped(t, "&#"+strconv.Itoa(n)+";")
		wantUnescaped(t, "&#0"+strconv.Itoa(n)+";")
		wantUnescaped(t, "&#"+strconv.Itoa(n))
		wantUnescaped(t, "&"+strconv.Itoa(n)+";")
	}
}

// Each text of some pieces is read as the model reads it; and what is read is written so again.
func TestUnescapeOfAllShortTexts(t *testing.T) {
	pieces := []string{"&", "#", ";", "amp", "lt", "gt", "quot", "1", "0", "27", "a", " ", "<", "\"", "\n"}
	texts := []string{""}
	for range 5 {
		var longer []string
		for _, s := range texts {
			for _, piece := range pieces {
				longer = append(longer, s+piece)
			}
		}
		for _, s := range longer {
			got, ok := Unescape(s)
			if ok != escapedForm.MatchString(s) || ok && Escape(got) != s || !ok && got != "" {
				t.Fatalf("Unescape(%q): %q %v", s, got, ok)
			}
		}
		texts = longer
	}
}

func TestUnescapeOfTurnedTexts(t *testing.T) {
	const s = "a&amp;&lt;b&gt; &quot;&#10;&#255;~&#0;"
	wantUnescaped(t, s)
	for i := range len(s) {
		wantUnescaped(t, s[:i])
		wantUnescaped(t, s[i:])
		wantUnescaped(t, s[:i]+s[i+1:])
		for b := range 256 {
			wantUnescaped(t, s[:i]+string([]byte{byte(b)})+s[i:])
			wantUnescaped(t, s[:i]+string([]byte{byte(b)})+s[i+1:])
		}
	}
}

func FuzzUnescape(f *testing.F) {
	for _, s := range []string{"", "a&lt;b", "&#65;", "&#255;&amp;", "&#010;", "&quot", "<"} {
		f.Add(s)
	}
	f.Fuzz(func(t *testing.T, s string) {
		wantUnescaped(t, s)
		wantThereAndBack(t, s)
	})
}
