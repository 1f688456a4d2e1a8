package markup

import (
	"math/rand"
	"regexp"
	"strings"
	"testing"

	"topiary/api"
	"topiary/ident"
	"topiary/vtree"
)

// The model of Parse: beginnings and ends of nodes, found by their forms and laid together by hand.

const nameForm = `[a-z][a-z0-9-]{0,31}`

var (
	beginForm = regexp.MustCompile(`^<(` + nameForm + `) #([a-z0-9.]+)((?: ` + nameForm + `="` + charForm + `*")*)>(` + charForm + `*)`)
	endForm   = regexp.MustCompile(`^</(` + nameForm + `)>`)
	attrForm  = regexp.MustCompile(` (` + nameForm + `)="(` + charForm + `*)"`)
)

func plainParse(s string) (api.VNode, api.Errno) {
	if len(s) > 1<<18 {
		return api.VNode{}, api.ErrLong
	}
	t, rest, ok := plainNode(s)
	if !ok || rest != "" || vtree.Check(t) != api.OK {
		return api.VNode{}, api.ErrForm
	}
	return t, api.OK
}

func plainNode(s string) (n api.VNode, rest string, ok bool) {
	begin := beginForm.FindStringSubmatch(s)
	if begin == nil {
		return n, s, false
	}
	key, e := ident.Parse(begin[2])
	n.Key, n.Tag = key, begin[1]
	for _, a := range attrForm.FindAllStringSubmatch(begin[3], -1) {
		value, _ := plainUnescape(a[2])
		n.Attrs = append(n.Attrs, api.Attr{Name: a[1], Value: value})
	}
	n.Text, _ = plainUnescape(begin[4])
	s = s[len(begin[0]):]
	for strings.HasPrefix(s, "<") && !strings.HasPrefix(s, "</") {
		kid, behind, ok := plainNode(s)
		if !ok {
			return n, s, false
		}
		n.Kids = append(n.Kids, kid)
		s = behind
	}
	end := endForm.FindStringSubmatch(s)
	if e != api.OK || end == nil || end[1] != n.Tag {
		return n, s, false
	}
	return n, s[len(end[0]):], true
}

// wantRead asks whether s is read as the model reads it.
func wantRead(t testing.TB, s string) {
	t.Helper()
	want, wantE := plainParse(s)
	got, e := Parse(s)
	if e != wantE || !vtree.Same(got, want) {
		t.Fatalf("Parse(%.300q): %d\n%.2000swant %d\n%.2000s", s, e, spelt(got), wantE, spelt(want))
	}
	if e != api.OK {
		return
	}
	if again, e := Print(got); again != s || e != api.OK {
		t.Fatalf("Print of Parse of %.300q: %.300q %d", s, again, e)
	}
}

func wantErr(t testing.TB, s string, want api.Errno) {
	t.Helper()
	if x, e := Parse(s); e != want || !vtree.Same(x, api.VNode{}) {
		t.Errorf("Parse(%.100q): %d, want %d\n%.1000s", s, e, want, spelt(x))
	}
}

// P20.2: Parse

func TestParse(t *testing.T) {
	x, e := Parse(familyText)
	if e != api.OK || !vtree.Same(x, family()) {
		t.Errorf("%d\n%swant\n%s", e, spelt(x), spelt(family()))
	}
	wantRead(t, familyText)
}

func TestParseRefuses(t *testing.T) {
	for _, s := range []string{
		"", " ", "p", "a&lt;b", "<", ">", "<>", "</>", "<p>", "</p>", "<p/>", "<p #1.0/>", "<p #1.0 />", "<!-- -->", "<?xml?>",
		"<p></p>", "<p ></p>", "<p 1.0></p>", "<p #></p>", "<p # 1.0></p>", "<p#1.0></p>", "< p #1.0></p>", "<#1.0></>", "< #1.0></>",
		"<p #1.0>", "<p #1.0><", "<p #1.0></", "<p #1.0></p", "<p #1.0></p ", "<p #1.0></ p>", "<p #1.0></p >", "<p #1.0></b>", "<p #1.0></pp>", "<pp #1.0></p>", "<p #1.0></p #1.0>", "<p #1.0></P>", "<p #1.0><p>", "<p #1.0></>",
		" <p #1.0></p>", "<p #1.0></p> ", "<p #1.0></p>\n", "<p #1.0></p>a", "a<p #1.0></p>", "<p #1.0></p><p #2.0></p>", "<p #1.0></p></p>", "<p #1.0></p><", "\ufeff<p #1.0></p>",
		"<p  #1.0></p>", "<p #1.0 ></p>", "<p\t#1.0></p>", "<p\n#1.0></p>", "<p #1.0  a=\"\"></p>", "<p #1.0 a=\"\" ></p>", "<p a=\"\" #1.0></p>",
		"<P #1.0></P>", "<1 #1.0></1>", "<- #1.0></->", "<p_ #1.0></p_>", "<p\xff #1.0></p\xff>", "<p> #1.0></p>>", "<p\" #1.0></p\">", "<p< #1.0></p<>",
		"<p #1></p>", "<p #1.></p>", "<p #.0></p>", "<p #01.0></p>", "<p #1.00></p>", "<p #1.64></p>", "<p #0.0></p>", "<p #0.1></p>", "<p #-1.0></p>", "<p #+1.0></p>", "<p #1099511627777.0></p>", "<p #99999999999999999999.0></p>", "<p #Root></p>", "<p #roots></p>", "<p #-></p>", "<p #\"1.0\"></p>", "<p #1.0.0></p>", "<p #1.0#></p>",
		"<p #1.0 a></p>", "<p #1.0 a=></p>", "<p #1.0 a=x></p>", "<p #1.0 a='x'></p>", "<p #1.0 a =\"x\"></p>", "<p #1.0 a= \"x\"></p>", "<p #1.0 a=\"x></p>", "<p #1.0 a=x\"></p>", "<p #1.0 a=\"x\"\"></p>", "<p #1.0 a=\"\"b=\"\"></p>", "<p #1.0 a=\"\" b></p>", "<p #1.0 =\"\"></p>", "<p #1.0 A=\"\"></p>", "<p #1.0 1=\"\"></p>", "<p #1.0 a:b=\"\"></p>", "<p #1.0 #2.0></p>", "<p #1.0a=\"\"></p>",
		"<p #1.0 b=\"\" a=\"\"></p>", "<p #1.0 a=\"\" a=\"\"></p>", "<p #1.0 a=\"\" c=\"\" b=\"\"></p>", "<p #1.0 aa=\"\" a=\"\"></p>",
		"<p #1.0 a=\"<\"></p>", "<p #1.0 a=\">\"></p>", "<p #1.0 a=\"&\"></p>", "<p #1.0 a=\"&#65;\"></p>", "<p #1.0 a=\"&#010;\"></p>", "<p #1.0 a=\"\n\"></p>", "<p #1.0 a=\"\xff\"></p>", "<p #1.0 a=\"&quot\"></p>", "<p #1.0 a=\"&lt\";></p>",
		"<p #1.0>></p>", "<p #1.0>\"</p>", "<p #1.0>&</p>", "<p #1.0>&;</p>", "<p #1.0>a&lt</p>", "<p #1.0>&#65;</p>", "<p #1.0>&#256;</p>", "<p #1.0>\n</p>", "<p #1.0>\x7f</p>", "<p #1.0>\xff</p>", "<p #1.0>\u00e4</p>", "<p #1.0>&lt</p>;", "<p #1.0>a<</p>", "<p #1.0>a<b</p>",
		"<p #1.0><b #2.0></b>a</p>", "<p #1.0><b #2.0></b>a<b #3.0></b></p>", "<p #1.0><b #2.0></b> </p>", "<p #1.0><b #2.0></p></b>", "<p #1.0><b #2.0></p>", "<p #1.0><b></b></p>", "<p #1.0></b></p>", "<p #1.0><b #2.0 ></b></p>",
		"<p #1.0><p #1.0></p></p>", "<p #1.0><p #2.0></p><p #2.0></p></p>", "<p #1.0><b #root></b></p>", "<p #1.0><b #trash></b></p>", "<root #root><b #root></b></root>", "<root #root><b #trash></b></root>",
		"<p #1.0>" + strings.Repeat("x", 257) + "</p>", "<p #1.0 a=\"" + strings.Repeat("x", 257) + "\"></p>",
		"<" + strings.Repeat("a", 33) + " #1.0></" + strings.Repeat("a", 33) + ">", "<p #1.0 " + strings.Repeat("a", 33) + "=\"\"></p>",
	} {
		wantErr(t, s, api.ErrForm)
		if _, e := plainParse(s); e != api.ErrForm {
			t.Errorf("the model reads %q", s)
		}
	}
}

// What is right but for one limit is none.
func TestParseBeyondTheLimits(t *testing.T) {
	many := tree("root(1.0)")
	many.Kids[0].Attrs = manyAttrs(4097)
	for name, x := range map[string]api.VNode{"attributes": many, "wide": wide(8193), "deep": chain(8193)} {
		s := plainText(x, true)
		if len(s) > 1<<18 {
			t.Fatalf("%s: the text is too long", name)
		}
		wantErr(t, s, api.ErrForm)
	}
}

// What has the right form, but is no right tree.
func TestParseOfWrongTrees(t *testing.T) {
	for name, x := range wrongTrees() {
		if name == "3 beneath itself" {
			continue // it has no text
		}
		wantErr(t, plainText(x, true), api.ErrForm)
	}
}

func TestParseMaxText(t *testing.T) {
	const most = 1 << 18
	for _, s := range []string{"<", "a", "&", " ", "\n", "<p #1.0>", "</p>", "<p #1.0></p>", "<p #1.0 a=\"", "<p ", "<p #", "<p #1.0 a=\"\"", "&amp;", "&#"} {
		long := strings.Repeat(s, most/len(s)+2)
		wantErr(t, long[:most], api.ErrForm)
		wantErr(t, long[:most+1], api.ErrLong)
		wantErr(t, long+long, api.ErrLong)
		wantErr(t, ("<p #1.0>" + long)[:most], api.ErrForm)
	}
	x := sized(most, true)
	s := plainText(x, true)
	if y, e := Parse(s); e != api.OK || !vtree.Same(x, y) {
		t.Errorf("%d", e)
	}
	wantErr(t, s+" ", api.ErrLong)
	wantErr(t, s[:most-1], api.ErrForm)
	wantErr(t, plainText(sized(most+1, true), true), api.ErrLong)
}

// Nodes that are begun, and never come to an end.
func TestParseOfDeepBeginnings(t *testing.T) {
	for _, n := range []int{8191, 8192, 8193, 1 << 15} {
		s := strings.Repeat("<p #1.0>", n)
		wantErr(t, s[:min(len(s), 1<<18)], api.ErrForm)
	}
	s := plainText(chain(8192), true)
	for _, cut := range []int{1, 2, 3, 4, 5, len(s) / 2, len(s) - 1} {
		wantErr(t, s[:len(s)-cut], api.ErrForm)
	}
}

func TestParsePlainTexts(t *testing.T) {
	for _, x := range alike() {
		wantErr(t, plainText(x, false), api.ErrForm)
	}
}

// Wherever a text is turned, it is read as the model reads it: mostly not at all, else as another tree.
func TestParseOfTurnedTexts(t *testing.T) {
	const pieces = "\x00\n \"#&'-./0123456789;<=>AZabdiloprqtuw_~\x7f\xff"
	for i := range len(familyText) {
		wantRead(t, familyText[:i])
		wantRead(t, familyText[i:])
		wantRead(t, familyText[:i]+familyText[i+1:])
		for _, b := range []byte(pieces) {
			wantRead(t, familyText[:i]+string([]byte{b})+familyText[i:])
			wantRead(t, familyText[:i]+string([]byte{b})+familyText[i+1:])
		}
	}
}

// All rows of some pieces.
func TestParseOfAllShortTexts(t *testing.T) {
	pieces := []string{"<p", "<b", " #1.0", " #2.0", ">", " a=\"\"", " b=\"&lt;\"", "a", "</p>", "</b>"}
	texts, right := []string{""}, 0
	for range 6 {
		var longer []string
		for _, s := range texts {
			for _, piece := range pieces {
				longer = append(longer, s+piece)
			}
		}
		for _, s := range longer {
			// Only what begins and ends rightly may be read at all, and the model takes its time.
			if strings.HasPrefix(s, "<") && strings.HasSuffix(s, ">") {
				wantRead(t, s)
			} else {
				wantErr(t, s, api.ErrForm)
			}
			if _, e := Parse(s); e == api.OK {
				right++
			}
		}
		texts = longer
	}
	if right < 10 {
		t.Errorf("only %d of them were read", right)
	}
}

// Texts whose pieces are left out, doubled, and laid elsewhere.
func TestParseOfMixedTexts(t *testing.T) {
	p := rand.New(rand.NewSource(3))
	right := 0
	for range 20000 {
		s := plainText(grown(p, 1+p.Intn(4)), true)
		for range p.Intn(3) {
			from, to := p.Intn(len(s)+1), p.Intn(len(s)+1)
			n := min(p.Intn(8), len(s)-from)
			piece := s[from : from+n]
			if p.Intn(2) == 0 {
				s = s[:from] + s[from+n:]
				to = min(to, len(s))
			}
			if p.Intn(2) == 0 {
				s = s[:to] + piece + s[to:]
			}
		}
		wantRead(t, s)
		if _, e := Parse(s); e == api.OK {
			right++
		}
	}
	if right < 1000 || right > 19000 {
		t.Errorf("%d of them were read", right)
	}
}

// What is a fault of the program's own is not taken for something that does not fit.
func TestOtherPanicsGoOn(t *testing.T) {
	defer func() {
		if why := recover(); why != "a fault" {
			t.Errorf("%v", why)
		}
	}()
	fits(func() { panic("a fault") })
	t.Error("it was caught")
}

func FuzzParse(f *testing.F) {
	for _, s := range []string{"", "<p></p>", familyText, "<p #1.0 a=\"&#10;\">&lt;</p>", "<root #root><p #1.0></p></root>", "<p #1.0 b=\"\" a=\"\"></p>"} {
		f.Add(s)
	}
	f.Fuzz(func(t *testing.T, s string) { wantRead(t, s) })
}
