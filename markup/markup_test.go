package markup

import (
	"math/rand"
	"slices"
	"strconv"
	"strings"
	"testing"

	"topiary/api"
	"topiary/ident"
	"topiary/vtree"
)

var (
	root  = api.Stamp{}
	trash = api.Stamp{Replica: 1}
)

func stamp(count, replica int) api.Stamp { return api.Stamp{Count: count, Replica: replica} }

// key tells the stamp of which that is the text.
func key(text string) api.Stamp {
	s, e := ident.Parse(text)
	if e != api.OK {
		panic(text)
	}
	return s
}

func plainKey(s api.Stamp) string {
	switch s {
	case root:
		return "root"
	case trash:
		return "trash"
	}
	return strconv.Itoa(s.Count) + "." + strconv.Itoa(s.Replica)
}

// tree tells the tree of which that is the shape: each key with its kids in brackets behind it. All are p.
func tree(shape string) api.VNode {
	n, rest := readShape(shape)
	if rest != "" {
		panic(shape)
	}
	return n
}

func readShape(s string) (api.VNode, string) {
	end := strings.IndexAny(s+" ", "() ")
	n := api.VNode{Key: key(s[:end]), Tag: "p"}
	s = s[end:]
	if !strings.HasPrefix(s, "(") {
		return n, s
	}
	for s[0] != ')' {
		var kid api.VNode
		kid, s = readShape(s[1:])
		n.Kids = append(n.Kids, kid)
	}
	return n, s[1:]
}

// having tells n with that text, and with attributes of these names and values by turns.
func having(n api.VNode, text string, l ...string) api.VNode {
	n.Text = text
	for i := 0; i < len(l); i += 2 {
		n.Attrs = append(n.Attrs, api.Attr{Name: l[i], Value: l[i+1]})
	}
	return n
}

// family tells root(1.0(3.0(5.0) 4.0) 2.0), in which no two nodes have the same fields.
func family() api.VNode {
	t := tree("root(1.0(3.0(5.0) 4.0) 2.0)")
	t.Tag = "root"
	t.Kids[0] = having(t.Kids[0], "", "b", "1", "d", "&\n")
	t.Kids[0].Kids[0].Text = "thr\xc3\xa4e"
	t.Kids[0].Kids[1].Tag = "b"
	t.Kids[1] = having(t.Kids[1], "<two>", "id", "\"")
	t.Kids[1].Tag = "li"
	return t
}

const familyText = `<root #root><p #1.0 b="1" d="&amp;&#10;"><p #3.0>thr&#195;&#164;e<p #5.0></p></p><b #4.0></b></p><li #2.0 id="&quot;">&lt;two&gt;</li></root>`

func wide(n int) api.VNode {
	t := api.VNode{Tag: "root"}
	for i := 1; i < n; i++ {
		t.Kids = append(t.Kids, api.VNode{Key: stamp(i, 1), Tag: "p"})
	}
	return t
}

func chain(n int) api.VNode {
	t := api.VNode{Key: stamp(n-1, 1), Tag: "p"}
	for i := n - 2; i >= 0; i-- {
		t = api.VNode{Key: stamp(i, 1), Tag: "p", Kids: []api.VNode{t}}
	}
	t.Key, t.Tag = root, "root"
	return t
}

func manyAttrs(n int) []api.Attr {
	var out []api.Attr
	for i := range n {
		out = append(out, api.Attr{Name: "a" + strconv.Itoa(10000+i)})
	}
	return out
}

// spelt tells all fields of all nodes, otherwise than the program does.
func spelt(t api.VNode) string {
	var b strings.Builder
	var down func(n *api.VNode, deep int)
	down = func(n *api.VNode, deep int) {
		b.WriteString(strings.Repeat("  ", min(deep, 40)) + plainKey(n.Key) + " " + n.Tag + " " + strconv.Quote(n.Text))
		for _, a := range n.Attrs {
			b.WriteString(" " + a.Name + "=" + strconv.Quote(a.Value))
		}
		b.WriteString("\n")
		for i := range n.Kids {
			down(&n.Kids[i], deep+1)
		}
	}
	down(&t, 0)
	return b.String()
}

// The model of Print and Plain: the chapter's words in their plainest form.
func plainText(x api.VNode, hasKeys bool) string {
	var b strings.Builder
	var down func(n *api.VNode)
	down = func(n *api.VNode) {
		b.WriteString("<" + n.Tag)
		if hasKeys {
			b.WriteString(" #" + plainKey(n.Key))
		}
		for _, a := range n.Attrs {
			b.WriteString(" " + a.Name + "=\"" + plainEscape(a.Value) + "\"")
		}
		b.WriteString(">" + plainEscape(n.Text))
		for i := range n.Kids {
			down(&n.Kids[i])
		}
		b.WriteString("</" + n.Tag + ">")
	}
	down(&x)
	return b.String()
}

// wantTexts asks for both texts of x, as the model tells them.
func wantTexts(t testing.TB, x api.VNode) {
	t.Helper()
	for _, hasKeys := range []bool{true, false} {
		print := Plain
		if hasKeys {
			print = Print
		}
		want, wantE := "", vtree.Check(x)
		if wantE == api.OK {
			want = plainText(x, hasKeys)
		}
		if len(want) > 1<<18 {
			want, wantE = "", api.ErrLong
		}
		if s, e := print(x); s != want || e != wantE {
			t.Errorf("keys %v: %.200q %d, want %.200q %d", hasKeys, s, e, want, wantE)
		}
	}
}

// wantReadBack asks for P20.3 of a tree that is right, and whose text is not too long.
func wantReadBack(t testing.TB, x api.VNode) {
	t.Helper()
	wantTexts(t, x)
	s, e := Print(x)
	if e != api.OK {
		t.Fatalf("Print: %d of\n%.2000s", e, spelt(x))
	}
	y, e := Parse(s)
	if e != api.OK || !vtree.Same(x, y) {
		t.Errorf("Parse of %.200q: %d\n%.2000swant\n%.2000s", s, e, spelt(y), spelt(x))
	}
	if again, e := Print(y); again != s || e != api.OK {
		t.Errorf("Print of Parse of %.200q: %.200q %d", s, again, e)
	}
}

// The examples

func TestExample(t *testing.T) {
	x := having(tree("1.0"), "a<b", "class", "x")
	if s, e := Print(x); s != `<p #1.0 class="x">a&lt;b</p>` || e != api.OK {
		t.Errorf("%q %d", s, e)
	}
	if s, e := Plain(x); s != `<p class="x">a&lt;b</p>` || e != api.OK {
		t.Errorf("%q %d", s, e)
	}
	if s, ok := Unescape("&#65;"); s != "" || ok {
		t.Errorf("%q %v", s, ok)
	}
	wantReadBack(t, x)
}

// DOC.md's examples of the whole that are seen here.
func TestExamplesOfTheWhole(t *testing.T) {
	x := tree("root(1.0)")
	x.Tag = "root"
	if s, e := Print(x); s != "<root #root><p #1.0></p></root>" || e != api.OK {
		t.Errorf("%q %d", s, e)
	}
	x = tree("1.1(1.0)")
	x.Tag = "b"
	if s, e := Plain(x); s != "<b><p></p></b>" || e != api.OK {
		t.Errorf("%q %d", s, e)
	}
}

// P20.2: Print, Plain

func TestPrintByHand(t *testing.T) {
	for _, x := range []struct {
		t           api.VNode
		text, plain string
	}{
		{tree("root"), "<p #root></p>", "<p></p>"},
		{tree("trash"), "<p #trash></p>", "<p></p>"},
		{tree("1099511627776.63"), "<p #1099511627776.63></p>", "<p></p>"},
		{tree("root(2.0 1.0)"), "<p #root><p #2.0></p><p #1.0></p></p>", "<p><p></p><p></p></p>"},
		{having(tree("1.0(2.0)"), "&", "a", "", "b", "<"), `<p #1.0 a="" b="&lt;">&amp;<p #2.0></p></p>`, `<p a="" b="&lt;">&amp;<p></p></p>`},
		{having(tree("1.0"), " \x00 \xff", "a-1", " "), `<p #1.0 a-1=" "> &#0; &#255;</p>`, `<p a-1=" "> &#0; &#255;</p>`},
		{having(tree("1.0"), "</p>", "a", "b=\"c\""), `<p #1.0 a="b=&quot;c&quot;">&lt;/p&gt;</p>`, `<p a="b=&quot;c&quot;">&lt;/p&gt;</p>`},
		{family(), familyText, strings.NewReplacer(" #root", "", " #1.0", "", " #2.0", "", " #3.0", "", " #4.0", "", " #5.0", "").Replace(familyText)},
	} {
		if s, e := Print(x.t); s != x.text || e != api.OK {
			t.Errorf("Print: %q %d, want %q", s, e, x.text)
		}
		if s, e := Plain(x.t); s != x.plain || e != api.OK {
			t.Errorf("Plain: %q %d, want %q", s, e, x.plain)
		}
		wantReadBack(t, x.t)
	}
}

// wrongTrees tells trees that vtree.Check refuses, at the topmost node or deep within, and how.
func wrongTrees() map[string]api.VNode {
	long := strings.Repeat("x", 257)
	top := tree("root")
	noTag := tree("root(1.0(2.0))")
	noTag.Kids[0].Kids[0].Tag = ""
	many := tree("root(1.0)")
	many.Kids[0].Attrs = manyAttrs(4097)
	loop := api.VNode{Tag: "root", Kids: make([]api.VNode, 1)}
	loop.Kids[0] = api.VNode{Key: stamp(1, 0), Tag: "p", Kids: loop.Kids}
	return map[string]api.VNode{
		"1 nothing at all":    {},
		"2 key":               {Key: stamp(0, 2), Tag: "p"},
		"2 a kid's key":       tree("root(1.0(trash))"),
		"2 the root as a kid": tree("trash(root)"),
		"2 attributes fall":   having(top, "", "b", "", "a", ""),
		"2 attribute twice":   having(top, "", "a", "", "a", ""),
		"3 text":              having(top, long),
		"3 attribute's value": having(top, "", "a", long),
		"3 attributes":        many,
		"3 nodes":             wide(8193),
		"3 deep":              chain(8193),
		"3 beneath itself":    loop,
		"5 twice":             tree("root(1.0(2.0) 2.0)"),
		"5 the topmost twice": tree("1.0(1.0)"),
		"8 no tag":            noTag,
		"8 attribute's name":  having(top, "", "A", ""),
		"8 no name":           having(top, "", "", ""),
	}
}

func TestPrintRefuses(t *testing.T) {
	for name, x := range wrongTrees() {
		want := api.Errno(name[0] - '0')
		if name == "1 nothing at all" {
			want = api.ErrName // its tag is none
		}
		if s, e := Print(x); s != "" || e != want {
			t.Errorf("%s: Print: %.40q %d", name, s, e)
		}
		if s, e := Plain(x); s != "" || e != want {
			t.Errorf("%s: Plain: %.40q %d", name, s, e)
		}
	}
}

// sized tells a tree whose text, or plain text, has just n bytes.
func sized(n int, hasKeys bool) api.VNode {
	x := tree("root")
	left := n - len(plainText(x, hasKeys))
	for i := 1; ; i++ {
		kid := api.VNode{Key: stamp(i, 0), Tag: "p", Text: strings.Repeat("x", 200)}
		all := len(plainText(kid, hasKeys))
		if bare := all - 200; left <= bare+256 {
			kid.Text = strings.Repeat("y", left-bare)
			x.Kids = append(x.Kids, kid)
			return x
		}
		x.Kids = append(x.Kids, kid)
		left -= all
	}
}

func TestMaxText(t *testing.T) {
	const most = 1 << 18
	for _, n := range []int{1000, most - 1, most} {
		x := sized(n, true)
		if s, e := Print(x); len(s) != n || e != api.OK {
			t.Errorf("Print of %d: %d %d", n, len(s), e)
		}
		wantReadBack(t, x)
		x = sized(n, false)
		if s, e := Plain(x); len(s) != n || e != api.OK {
			t.Errorf("Plain of %d: %d %d", n, len(s), e)
		}
	}
	for _, n := range []int{most + 1, most + 2, most + 100, most + 300, 2 * most} {
		if s, e := Print(sized(n, true)); s != "" || e != api.ErrLong {
			t.Errorf("Print of %d: %d %d", n, len(s), e)
		}
		x := sized(n, false)
		if s, e := Plain(x); s != "" || e != api.ErrLong {
			t.Errorf("Plain of %d: %d %d", n, len(s), e)
		}
	}
	// A text that is too long but for the keys: its plain one is none the less told.
	x := sized(most+1, true)
	if s, e := Plain(x); s != plainText(x, false) || e != api.OK {
		t.Errorf("Plain: %d %d", len(s), e)
	}
}

// Escaped bytes count, not those that they stand for.
func TestMaxTextOfEscapedTexts(t *testing.T) {
	for _, n := range []int{1, 169, 170, 171} {
		x := tree("root")
		x.Attrs = manyAttrs(n)
		for i := range x.Attrs {
			x.Attrs[i].Value = strings.Repeat("\xff", 256)
		}
		wantTexts(t, x)
		// Each attribute has 10 bytes beside 256 escaped ones.
		want := api.OK
		if len("<p #root></p>")+n*(10+256*len("&#255;")) > 1<<18 {
			want = api.ErrLong
		}
		if _, e := Print(x); e != want {
			t.Errorf("%d attributes: %d, want %d", n, e, want)
		}
	}
}

// A wrong tree is told ahead of a text that is too long, wherever in it the fault is.
func TestFaultsAheadOfMaxText(t *testing.T) {
	for want, spoil := range map[api.Errno]func(n *api.VNode){
		api.ErrForm:  func(n *api.VNode) { n.Key = root },
		api.ErrTwice: func(n *api.VNode) { n.Key = stamp(1, 0) },
		api.ErrName:  func(n *api.VNode) { n.Tag = "P" },
	} {
		x := sized(1<<19, true)
		spoil(&x.Kids[len(x.Kids)-1])
		if s, e := Print(x); s != "" || e != want {
			t.Errorf("Print: %d %d, want %d", len(s), e, want)
		}
		if s, e := Plain(x); s != "" || e != want {
			t.Errorf("Plain: %d %d, want %d", len(s), e, want)
		}
	}
}

// A right tree may have a text of which there is no end in sight.
func TestTextsFarTooLong(t *testing.T) {
	x := wide(8192)
	attrs := manyAttrs(512)
	for i := range attrs {
		attrs[i].Value = strings.Repeat("\x80", 256)
	}
	for i := range x.Kids {
		x.Kids[i].Attrs = attrs
	}
	for _, print := range []func(api.VNode) (string, api.Errno){Print, Plain} {
		if s, e := print(x); s != "" || e != api.ErrLong {
			t.Errorf("%d %d", len(s), e)
		}
	}
}

func TestListsWithoutElements(t *testing.T) {
	x := tree("root(1.0)")
	x.Attrs = []api.Attr{}
	x.Kids[0].Kids = []api.VNode{}
	wantReadBack(t, x)
}

// P20.3, P20.4: there and back, and one text just of one tree

// kidsOf tells all lists of trees of just these keys, in this order.
func kidsOf(keys []api.Stamp) [][]api.VNode {
	if len(keys) == 0 {
		return [][]api.VNode{nil}
	}
	var out [][]api.VNode
	for n := range len(keys) {
		for _, beneath := range kidsOf(keys[1 : n+1]) {
			for _, behind := range kidsOf(keys[n+1:]) {
				out = append(out, append([]api.VNode{{Key: keys[0], Tag: "p", Kids: beneath}}, behind...))
			}
		}
	}
	return out
}

// small tells all shapes of trees of n nodes.
func small(n int) []api.VNode {
	var keys []api.Stamp
	for i := 1; i < n; i++ {
		keys = append(keys, stamp(i, i%2))
	}
	var out []api.VNode
	for _, kids := range kidsOf(keys) {
		out = append(out, api.VNode{Tag: "root", Kids: kids})
	}
	return out
}

func TestAllSmallTrees(t *testing.T) {
	for n := 1; n <= 8; n++ {
		for _, x := range small(n) {
			wantReadBack(t, x)
		}
	}
}

// alike tells trees that are like one another, but for a field or a place each.
func alike() []api.VNode {
	out := []api.VNode{
		tree("root"), tree("trash"), tree("1.0"), tree("1.1"), tree("11.0"), tree("1.10"),
		having(tree("root"), " "), having(tree("root"), "a"), having(tree("root"), "#1.0"), having(tree("root"), "</p>"), having(tree("root"), "&lt;/p&gt;"), having(tree("root"), "<p #1.0></p>"),
		having(tree("root"), "", "a", ""), having(tree("root"), "", "a", "b"), having(tree("root"), "", "a", "\" b=\""), having(tree("root"), "", "a", "", "b", ""), having(tree("root"), "", "b", ""),
		having(tree("root"), "", "a", "&quot; b=&quot;"), having(tree("root"), "a=\"\""), having(tree("root"), "", "ab", ""),
		having(tree("root"), "\n"), having(tree("root"), "&#10;"), having(tree("root"), "&"), having(tree("root"), "&amp;"),
	}
	for _, tag := range []string{"a", "pp", "p-", "p1", "root"} {
		x := tree("root")
		x.Tag = tag
		out = append(out, x)
	}
	for _, text := range []string{"", "a"} {
		for i, shape := range []string{"root(1.0)", "root(1.0 2.0)", "root(2.0 1.0)", "root(1.0(2.0))", "root(2.0(1.0))", "root(1.0(2.0) 3.0)", "root(1.0(2.0 3.0))", "root(1.0(2.0(3.0)))", "root(1.0 2.0(3.0))", "root(1.0 2.0 3.0)"} {
			x := tree(shape)
			x.Kids[0] = having(x.Kids[0], text, "n", strconv.Itoa(i%2))
			out = append(out, x)
		}
	}
	return out
}

func TestOneTextOfOneTree(t *testing.T) {
	l := alike()
	for n := 1; n <= 6; n++ {
		l = append(l, small(n)...)
	}
	for _, a := range l {
		wantReadBack(t, a)
		s, e := Print(a)
		if e != api.OK {
			t.Fatal(e)
		}
		for _, b := range l {
			if r, _ := Print(b); (r == s) != vtree.Same(a, b) {
				t.Errorf("%q of\n%sand\n%s", s, spelt(a), spelt(b))
			}
		}
	}
}

// anyText tells a text of up to n bytes of all kinds, most of them such as are escaped.
func anyText(p *rand.Rand, n int) string {
	b := make([]byte, p.Intn(n+1))
	p.Read(b)
	for i := range b {
		if p.Intn(2) == 0 {
			b[i] = "&<>\"#; =/\n\\'a1"[p.Intn(14)]
		}
	}
	return string(b)
}

func anyName(p *rand.Rand) string {
	const first, all = "abcz", "abcz09-"
	b := []byte{first[p.Intn(len(first))]}
	for range p.Intn(1 << p.Intn(6)) {
		b = append(b, all[p.Intn(len(all))])
	}
	return string(b)
}

// grown tells a right tree of n nodes.
func grown(p *rand.Rand, n int) api.VNode {
	keys := []api.Stamp{{Replica: p.Intn(2)}}
	for i := 1; i < n; i++ {
		keys = append(keys, stamp(i+p.Intn(2)*1000, p.Intn(64)))
	}
	p.Shuffle(len(keys)-1, func(a, b int) { keys[a+1], keys[b+1] = keys[b+1], keys[a+1] })
	at := 0
	var grow func() api.VNode
	grow = func() api.VNode {
		x := api.VNode{Key: keys[at], Tag: anyName(p), Text: anyText(p, 20)}
		at++
		names := map[string]struct{}{}
		for range p.Intn(4) {
			names[anyName(p)] = struct{}{}
		}
		for name := range names {
			x.Attrs = append(x.Attrs, api.Attr{Name: name, Value: anyText(p, 10)})
		}
		slices.SortFunc(x.Attrs, func(a, b api.Attr) int { return strings.Compare(a.Name, b.Name) })
		for at < len(keys) && p.Intn(3) > 0 {
			x.Kids = append(x.Kids, grow())
		}
		return x
	}
	x := grow()
	for at < len(keys) {
		x.Kids = append(x.Kids, grow())
	}
	return x
}

func TestManyTrees(t *testing.T) {
	p := rand.New(rand.NewSource(2))
	for range 2000 {
		wantReadBack(t, grown(p, 1+p.Intn(20)))
	}
	wantReadBack(t, grown(p, 500))
}

func TestTreesAtTheLimits(t *testing.T) {
	full := api.VNode{Key: trash, Tag: strings.Repeat("a", 32), Text: strings.Repeat("\x00", 256), Attrs: manyAttrs(4096)}
	full.Attrs[0].Value = strings.Repeat("\xff", 256)
	full.Attrs[4095].Name = "z" + strings.Repeat("-", 31)
	for _, x := range []api.VNode{
		full, wide(8192), chain(8192),
		having(tree("1099511627776.63(1.0(2.0(3.0)))"), strings.Repeat("&", 256), "a", strings.Repeat("\"", 256)),
	} {
		wantReadBack(t, x)
	}
}

// Memory

// roomy tells x with lists behind whose ends there is room, in which something lies.
func roomy(x api.VNode) api.VNode {
	x.Attrs = append(slices.Clone(x.Attrs), api.Attr{Name: "behind", Value: "behind"})[:len(x.Attrs)]
	kids := append(slices.Clone(x.Kids), api.VNode{Tag: "behind"})
	for i := range x.Kids {
		kids[i] = roomy(kids[i])
	}
	x.Kids = kids[:len(x.Kids)]
	return x
}

func wantBehind(t *testing.T, x api.VNode) {
	t.Helper()
	if x.Attrs[:len(x.Attrs)+1][len(x.Attrs)] != (api.Attr{Name: "behind", Value: "behind"}) {
		t.Errorf("what lies behind the attributes of %v", x.Key)
	}
	if behind := x.Kids[:len(x.Kids)+1][len(x.Kids)]; !vtree.Same(behind, api.VNode{Tag: "behind"}) {
		t.Errorf("what lies behind the kids of %v", x.Key)
	}
	for _, kid := range x.Kids {
		wantBehind(t, kid)
	}
}

func TestNothingHandedInIsChanged(t *testing.T) {
	x := roomy(family())
	wantTexts(t, x)
	if !vtree.Same(x, family()) {
		t.Errorf("the tree is\n%s", spelt(x))
	}
	wantBehind(t, x)
}

// spoil turns all that x has, also by putting more behind its lists.
func spoil(x *api.VNode) {
	x.Text = "spoilt"
	for i := range x.Attrs {
		x.Attrs[i] = api.Attr{}
	}
	for i := range x.Kids {
		spoil(&x.Kids[i])
	}
	attrs, kids := x.Attrs[:cap(x.Attrs)], x.Kids[:cap(x.Kids)]
	for i := range attrs {
		attrs[i].Value = "spoilt"
	}
	for i := range kids {
		kids[i].Tag = "spoilt"
	}
}

func TestAnswersAreNewMemory(t *testing.T) {
	for range len(family().Kids) {
		a, _ := Parse(familyText)
		b, _ := Parse(familyText)
		spoil(&a)
		if !vtree.Same(b, family()) {
			t.Errorf("the other answer is\n%s", spelt(b))
		}
		// Within one answer: what one kid has is no other one's.
		spoil(&b.Kids[0])
		if !vtree.Same(b.Kids[1], family().Kids[1]) {
			t.Errorf("the other kid is\n%s", spelt(b.Kids[1]))
		}
	}
}
