package patch

import (
	"fmt"
	"math/rand"
	"regexp"
	"slices"
	"strconv"
	"strings"
	"testing"

	"topiary/api"
)

// The model: a step's text written kind by kind, as the chapter's table says.

func plainStamp(s api.Stamp) string {
	switch s {
	case root:
		return "root"
	case trash:
		return "trash"
	}
	return fmt.Sprintf("%d.%d", s.Count, s.Replica)
}

func plainAfter(s api.Stamp) string {
	if s == root {
		return "-"
	}
	return plainStamp(s)
}

func plainQuote(s string) string {
	out := `"`
	for _, b := range []byte(s) {
		if b >= 32 && b <= 126 && b != '"' && b != '\\' {
			out += string(rune(b))
		} else {
			out += fmt.Sprintf("\\%02x", b)
		}
	}
	return out + `"`
}

func plainText(p api.Patch) string {
	k := plainStamp(p.Key)
	switch p.Kind {
	case api.PTake:
		return "take " + k
	case api.PDrop:
		return "drop " + k
	case api.PMake:
		return "make " + k + " " + p.Name
	case api.PPut:
		return "put " + k + " " + plainStamp(p.Parent) + " " + plainAfter(p.After)
	case api.PShift:
		return "shift " + k + " " + plainAfter(p.After)
	case api.PTag:
		return "tag " + k + " " + p.Name
	case api.PText:
		return "text " + k + " " + plainQuote(p.Value)
	case api.PSet:
		return "set " + k + " " + p.Name + " " + plainQuote(p.Value)
	case api.PClear:
		return "clear " + k + " " + p.Name
	}
	return "?"
}

const (
	rightForm  = `([1-9][0-9]{0,12}\.(?:0|[1-9][0-9]?))`
	nodeForm   = `(root|trash|[1-9][0-9]{0,12}\.(?:0|[1-9][0-9]?))`
	afterForm  = `(-|[1-9][0-9]{0,12}\.(?:0|[1-9][0-9]?))`
	nameForm   = `[a-z][a-z0-9-]{0,31}`
	quotedForm = `"((?:[ !#-\[\]-~]|\\[0-9a-f]{2})*)"`
)

// lineForms: the steps' texts; those with a value have just two groups, the key and the value.
var lineForms = []*regexp.Regexp{
	regexp.MustCompile(`\A(?:take|drop) ` + rightForm + `\z`),
	regexp.MustCompile(`\Amake ` + rightForm + " " + nameForm + `\z`),
	regexp.MustCompile(`\Aput ` + rightForm + " " + nodeForm + " " + afterForm + `\z`),
	regexp.MustCompile(`\Ashift ` + rightForm + " " + afterForm + `\z`),
	regexp.MustCompile(`\A(?:tag|clear) ` + nodeForm + " " + nameForm + `\z`),
	regexp.MustCompile(`\Atext ` + nodeForm + " " + quotedForm + `\z`),
	regexp.MustCompile(`\Aset ` + nodeForm + " " + nameForm + " " + quotedForm + `\z`),
}

// plainIsLine tells whether s is the text of a right step, by what each word may look like.
func plainIsLine(s string) bool {
	for i, form := range lineForms {
		m := form.FindStringSubmatch(s)
		if m == nil {
			continue
		}
		stamps, value := m[1:], ""
		if i >= 5 {
			stamps, value = m[1:2], m[2]
		}
		return areStamps(stamps) && isQuotedRightly(value)
	}
	return false
}

func areStamps(l []string) bool {
	for i, s := range l {
		if i > 0 && s == l[0] { // Parent or After is Key
			return false
		}
		count, replica, found := strings.Cut(s, ".")
		if !found {
			continue
		}
		c, _ := strconv.Atoi(count)
		r, _ := strconv.Atoi(replica)
		if c > 1<<40 || r > 63 {
			return false
		}
	}
	return true
}

func isQuotedRightly(s string) bool {
	n := 0
	for ; s != ""; n++ {
		if s[0] != '\\' {
			s = s[1:]
			continue
		}
		b, _ := strconv.ParseUint(s[1:3], 16, 8)
		if b >= 32 && b <= 126 && b != '"' && b != '\\' { // it would stand for itself
			return false
		}
		s = s[3:]
	}
	return n <= 256
}

// wantRead holds Parse of any text against the model, and reads what it tells back.
func wantRead(t testing.TB, s string) {
	t.Helper()
	want := api.OK
	lines := strings.SplitAfter(s, "\n")
	for _, line := range lines[:len(lines)-1] {
		if !plainIsLine(strings.TrimSuffix(line, "\n")) {
			want = api.ErrForm
		}
	}
	if lines[len(lines)-1] != "" {
		want = api.ErrForm
	}
	if len(s) > 1<<18 {
		want = api.ErrLong
	}
	l, e := Parse(s)
	if e != want {
		t.Fatalf("%.300q: %d, want %d", s, e, want)
	}
	if e != api.OK {
		if len(l) != 0 {
			t.Fatalf("%.300q: %v beside %d", s, l, e)
		}
		return
	}
	if len(l) != len(lines)-1 {
		t.Fatalf("%.300q: %d steps", s, len(l))
	}
	for i, p := range l {
		if plainCheck(p) != api.OK || plainText(p)+"\n" != lines[i] {
			t.Fatalf("%q: %+v", lines[i], p)
		}
	}
	if text, e := Print(l); e != api.OK || text != s {
		t.Fatalf("%.300q: printed %.300q, %d", s, text, e)
	}
}

// texts are right steps and their texts.
func texts() []struct {
	p    api.Patch
	text string
} {
	return []struct {
		p    api.Patch
		text string
	}{
		{api.Patch{Kind: 1, Key: stamp(1, 0)}, "take 1.0"},
		{api.Patch{Kind: 2, Key: stamp(1<<40, 63)}, "drop 1099511627776.63"},
		{api.Patch{Kind: 3, Key: stamp(3, 0), Name: "li"}, "make 3.0 li"},
		{api.Patch{Kind: 4, Key: stamp(3, 0)}, "put 3.0 root -"},
		{api.Patch{Kind: 4, Key: stamp(3, 0), Parent: trash, After: stamp(1, 0)}, "put 3.0 trash 1.0"},
		{api.Patch{Kind: 4, Key: stamp(3, 0), Parent: stamp(2, 1), After: stamp(2, 1)}, "put 3.0 2.1 2.1"},
		{api.Patch{Kind: 5, Key: stamp(1, 0)}, "shift 1.0 -"},
		{api.Patch{Kind: 5, Key: stamp(1, 0), After: stamp(2, 0)}, "shift 1.0 2.0"},
		{api.Patch{Kind: 6, Name: "top"}, "tag root top"},
		{api.Patch{Kind: 6, Key: trash, Name: "top"}, "tag trash top"},
		{api.Patch{Kind: 7, Key: stamp(1, 0)}, `text 1.0 ""`},
		{api.Patch{Kind: 7, Key: trash, Value: "a b  c "}, `text trash "a b  c "`},
		{api.Patch{Kind: 7, Value: "\n\"\\\x00\x7f\xff"}, `text root "\0a\22\5c\00\7f\ff"`},
		{api.Patch{Kind: 8, Key: stamp(1, 0), Name: "id", Value: "x"}, `set 1.0 id "x"`},
		{api.Patch{Kind: 8, Name: strings.Repeat("z", 32), Value: strings.Repeat("\x01", 256)}, "set root " + strings.Repeat("z", 32) + ` "` + strings.Repeat(`\01`, 256) + `"`},
		{api.Patch{Kind: 9, Key: stamp(1, 0), Name: "id"}, "clear 1.0 id"},
		{api.Patch{Kind: 9, Key: trash, Name: "a-1"}, "clear trash a-1"},
	}
}

// P17.3, P17.7

func TestPrintAndParse(t *testing.T) {
	var all []api.Patch
	var text string
	for _, c := range texts() {
		if got, e := Print([]api.Patch{c.p}); e != api.OK || got != c.text+"\n" {
			t.Errorf("%+v: %q %d, want %q", c.p, got, e, c.text)
		}
		if got, e := Parse(c.text + "\n"); e != api.OK || len(got) != 1 || got[0] != c.p {
			t.Errorf("%q: %+v %d", c.text, got, e)
		}
		wantRead(t, c.text+"\n")
		all = append(all, c.p)
		text += c.text + "\n"
	}
	if got, e := Print(all); e != api.OK || got != text {
		t.Errorf("%q %d", got, e)
	}
	if got, e := Parse(text); e != api.OK || !slices.Equal(got, all) {
		t.Errorf("%+v %d", got, e)
	}
}

func TestNoSteps(t *testing.T) {
	for _, l := range [][]api.Patch{nil, {}} {
		if text, e := Print(l); text != "" || e != api.OK {
			t.Errorf("%q %d", text, e)
		}
	}
	if l, e := Parse(""); len(l) != 0 || e != api.OK {
		t.Errorf("%v %d", l, e)
	}
}

func TestParseRefuses(t *testing.T) {
	for _, s := range []string{
		"\n", " ", "-\n", "\n\n", "take 1.0", "take 1.0\n\n", "\ntake 1.0\n", "take 1.0\ntake 2.0", "take 1.0\r\n", "take 1.0\x00\n", "take 1.0\ntake\n",
		"take\n", "take \n", "take 1\n", "take 1.0 \n", " take 1.0\n", "take  1.0\n", "take\t1.0\n", "take 1.0 -\n", "take 1.0 2.0\n", "Take 1.0\n", "takes 1.0\n", "1.0\n", "1 1.0\n", "move 1.0\n",
		"take root\n", "take trash\n", "take -\n", "take 0.0\n", "take 0.1\n", "take 01.0\n", "take 1.00\n", "take 1.64\n", "take +1.0\n", "take 1.-0\n", "take 1,0\n", "take 1.0.0\n", "take 1099511627777.0\n", "take 99999999999999999999.0\n",
		"drop root\n", "drop trash\n", "drop 1.0 2.0\n",
		"make 1.0\n", "make 1.0 \n", "make root p\n", "make trash p\n", "make 1.0 P\n", "make 1.0 -\n", "make 1.0 p \n", "make 1.0 p q\n", "make 1.0 p \"\"\n", "make 1.0 \"p\"\n", "make 1.0 " + strings.Repeat("a", 33) + "\n",
		"put 1.0\n", "put 1.0 root\n", "put 1.0 root \n", "put 1.0 root root\n", "put 1.0 root trash\n", "put 1.0 - -\n", "put 1.0 1.0 -\n", "put 1.0 2.0 1.0\n", "put root 2.0 -\n", "put trash 2.0 -\n", "put 1.0 2.0 - -\n", "put 1.0 2.0 --\n", "put 1.0 2.0 0.0\n", "put 1.0 0.0 -\n", "put 1.0 0.1 -\n", "put 1.0 2.0 - p\n",
		"shift 1.0\n", "shift 1.0 \n", "shift 1.0 1.0\n", "shift 1.0 root\n", "shift 1.0 trash\n", "shift root 1.0\n", "shift trash -\n", "shift 1.0 2.0 -\n", "shift 1.0 2.0 3.0\n", "shift 1.0 0.0\n", "shift 1.0  -\n",
		"tag 1.0\n", "tag 1.0 P\n", "tag 1.0 \n", "tag p\n", "tag - p\n", "tag 1.0 p p\n", "tag 1.0 1p\n",
		"text 1.0\n", "text 1.0 \n", "text 1.0 hey\n", "text 1.0 \"\n", "text 1.0 \"\" \n", "text 1.0  \"\"\n", "text 1.0 \"\"\"\n", "text 1.0 \"a\nb\"\n", "text 1.0 \"\\0A\"\n", "text 1.0 \"\\41\"\n", "text 1.0 \"\\20\"\n", "text 1.0 \"\\0\"\n", "text 1.0 \"\\\"\n", "text 1.0 \"\x7f\"\n", "text 1.0 \"é\"\n", "text 1.0 p \"\"\n", "text - \"\"\n", "text 1.0 \"" + strings.Repeat("v", 257) + "\"\n",
		"set 1.0 id\n", "set 1.0 id \n", "set 1.0 id x\n", "set 1.0 \"x\"\n", "set 1.0 ID \"x\"\n", "set 1.0  \"x\"\n", "set 1.0 id  \"x\"\n", "set 1.0 id \"x\" \n", "set 1.0 id \"x\" \"y\"\n", "set 1.0 id \"" + strings.Repeat("v", 257) + "\"\n",
		"clear 1.0\n", "clear 1.0 \n", "clear 1.0 ID\n", "clear 1.0 id \n", "clear 1.0 id \"\"\n", "clear 1.0 id id\n",
		"take 1.0\nset 1.0 id x\ntake 2.0\n", "\x00", "\xff\n",
	} {
		if l, e := Parse(s); e != api.ErrForm || len(l) != 0 {
			t.Errorf("%q: %v %d", s, l, e)
		}
		wantRead(t, s)
	}
}

func TestPrintRefuses(t *testing.T) {
	long := api.Patch{Kind: api.PText, Key: stamp(1, 0), Value: strings.Repeat("v", 257)}
	nameless := api.Patch{Kind: api.PMake, Key: stamp(1, 0)}
	self := api.Patch{Kind: api.PShift, Key: stamp(1, 0), After: stamp(1, 0)}
	right := sample(api.PTake)
	for _, c := range []struct {
		l    []api.Patch
		want api.Errno
	}{
		{[]api.Patch{{}}, api.ErrRange},
		{[]api.Patch{right, long, nameless, self, {}}, api.ErrLong},
		{[]api.Patch{right, right, nameless, long, self, {}}, api.ErrName},
		{[]api.Patch{self, {}, nameless}, api.ErrForm},
		{[]api.Patch{right, {}, self}, api.ErrRange},
		{[]api.Patch{right, right, right, {Kind: 10}}, api.ErrRange},
	} {
		if text, e := Print(c.l); text != "" || e != c.want {
			t.Errorf("%+v: %q %d, want %d", c.l, text, e, c.want)
		}
	}
}

// steady tells steps whose text has just n bytes.
func steady(n int) []api.Patch {
	const most = len(`text 1.0 ""`) + 1 + api.MaxValue
	var out []api.Patch
	for n > 0 {
		size := min(n, most)
		if n-size > 0 && n-size < 12 { // too few for a step of their own
			size -= 12
		}
		out = append(out, api.Patch{Kind: api.PText, Key: stamp(1, 0), Value: strings.Repeat("v", size-12)})
		n -= size
	}
	return out
}

func TestMaxText(t *testing.T) {
	for _, n := range []int{12, 13, 1000, 1<<18 - 1, 1 << 18} {
		l := steady(n)
		text, e := Print(l)
		if e != api.OK || len(text) != n {
			t.Fatalf("%d: %d bytes, %d", n, len(text), e)
		}
		if got, e := Parse(text); e != api.OK || !slices.Equal(got, l) {
			t.Errorf("%d: %d steps, %d", n, len(got), e)
		}
	}
	for _, n := range []int{1<<18 + 1, 1<<18 + 2, 1 << 19, 1 << 24} {
		l := steady(n)
		if text, e := Print(l); e != api.ErrLong || text != "" {
			t.Errorf("%d: %d bytes, %d", n, len(text), e)
		}
		// A wrong step counts first, wherever it stands.
		l = append(l, api.Patch{Kind: api.PTake})
		if text, e := Print(l); e != api.ErrForm || text != "" {
			t.Errorf("%d: %d bytes, %d", n, len(text), e)
		}
		for _, s := range []string{strings.Repeat("\n", n), strings.Repeat("take 1.0\n", n/9+1), strings.Repeat("x", n)} {
			if l, e := Parse(s); e != api.ErrLong || len(l) != 0 {
				t.Errorf("%d: %d steps, %d", n, len(l), e)
			}
		}
	}
	// Not too long, but of no form.
	for _, s := range []string{strings.Repeat("\n", 1<<18), strings.Repeat("x", 1<<18), strings.Repeat(" ", 1<<18), "text 1.0 \"" + strings.Repeat("v", 1<<18-12) + "\"\n"} {
		if l, e := Parse(s); e != api.ErrForm || len(l) != 0 {
			t.Errorf("%d steps, %d", len(l), e)
		}
	}
}

func anyStamp(p *rand.Rand) api.Stamp {
	switch p.Intn(12) {
	case 0:
		return root
	case 1:
		return trash
	case 2:
		return stamp(1<<40-p.Intn(2), 63)
	case 3:
		return stamp(p.Intn(3)-1, p.Intn(4)-1)
	}
	return stamp(1+p.Intn(12), p.Intn(12))
}

func anyValue(p *rand.Rand) string {
	var out []byte
	for range p.Intn(8) {
		out = append(out, byte(p.Intn(256)))
	}
	return string(out)
}

// rightStep tells some right step.
func rightStep(p *rand.Rand) api.Patch {
	for {
		s := sample(1 + p.Intn(9))
		s.Key = anyStamp(p)
		if s.Parent != root {
			s.Parent = anyStamp(p)
		}
		if s.After != root {
			s.After = anyStamp(p)
		}
		if s.Value != "" {
			s.Value = anyValue(p)
		}
		if plainCheck(s) == api.OK {
			return s
		}
	}
}

func TestTextIsReadBack(t *testing.T) {
	p := rand.New(rand.NewSource(7))
	for range 3000 {
		var l []api.Patch
		want := ""
		for range p.Intn(6) {
			s := rightStep(p)
			l = append(l, s)
			want += plainText(s) + "\n"
		}
		text, e := Print(l)
		if e != api.OK || text != want {
			t.Fatalf("%+v: %q %d, want %q", l, text, e, want)
		}
		if got, e := Parse(text); e != api.OK || !slices.Equal(got, l) {
			t.Fatalf("%q: %+v %d, want %+v", text, got, e, l)
		}
	}
}

// Right texts in which bytes are turned, lost, doubled, words cut: read just if they are right.
func TestTurnedTextsAreReadStrictly(t *testing.T) {
	const signs = "abtz019 .-\"\\\n\x00\x7fPé"
	p := rand.New(rand.NewSource(8))
	for range 20000 {
		text := ""
		for range 1 + p.Intn(2) {
			text += plainText(rightStep(p)) + "\n"
		}
		b := []byte(text)
		for range 1 + p.Intn(2) {
			at := p.Intn(len(b))
			switch p.Intn(4) {
			case 0:
				b[at] = signs[p.Intn(len(signs))]
			case 1:
				b = slices.Insert(b, at, signs[p.Intn(len(signs))])
			case 2:
				b = slices.Delete(b, at, min(at+1+p.Intn(3), len(b)))
			case 3:
				b = slices.Insert(b, at, b[at])
			}
			if len(b) == 0 {
				break
			}
		}
		wantRead(t, string(b))
	}
}

func TestParseTellsNewMemory(t *testing.T) {
	text := "take 1.0\ntag root top\n"
	a, _ := Parse(text)
	b, _ := Parse(text)
	for i := range a[:cap(a)] {
		a[:cap(a)][i] = api.Patch{Kind: 99}
	}
	if got, e := Print(b); e != api.OK || got != text {
		t.Errorf("%q %d", got, e)
	}
}

func TestPrintChangesNothing(t *testing.T) {
	l := []api.Patch{sample(api.PSet), sample(api.PPut), {Kind: 99, Name: "behind"}}
	was := slices.Clone(l)
	Print(l[:2])
	Touched(l[:2])
	Print(l)
	if !slices.Equal(l, was) {
		t.Errorf("%+v", l)
	}
}

func FuzzAnyText(f *testing.F) {
	all := ""
	for _, c := range texts() {
		f.Add(c.text + "\n")
		all += c.text + "\n"
	}
	f.Add(all)
	f.Add("put 1.0 root root\nshift 1.0 1.0\n")
	f.Fuzz(func(t *testing.T, s string) { wantRead(t, s) })
}
