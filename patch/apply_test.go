package patch

import (
	"math/rand"
	"slices"
	"strconv"
	"strings"
	"testing"

	"topiary/api"
	"topiary/vtree"
)

// elem tells a node of that key, a p, with these kids.
func elem(text string, kids ...api.VNode) api.VNode {
	return api.VNode{Key: key(text), Tag: "p", Kids: kids}
}

// family tells root(1.0(3.0(5.0) 4.0) 2.0), in which no two nodes have the same fields.
func family() api.VNode {
	three := elem("3.0", elem("5.0"))
	three.Text = "three"
	one := elem("1.0", three, elem("4.0"))
	one.Attrs = []api.Attr{{Name: "b", Value: "1"}, {Name: "d", Value: "2"}}
	two := elem("2.0")
	two.Tag, two.Text, two.Attrs = "li", "two", []api.Attr{{Name: "id", Value: "x"}}
	t := elem("root", one, two)
	t.Tag = "root"
	return t
}

// laid tells the nodes of t as they lie there, in order, and how many are above each one.
func laid(t *api.VNode) (nodes []*api.VNode, deep []int) {
	var down func(n *api.VNode, above int)
	down = func(n *api.VNode, above int) {
		nodes, deep = append(nodes, n), append(deep, above)
		for i := range n.Kids {
			down(&n.Kids[i], above+1)
		}
	}
	down(t, 0)
	return nodes, deep
}

// spelt tells all fields of all nodes, the tests' own way.
func spelt(t api.VNode) string {
	var b strings.Builder
	nodes, deep := laid(&t)
	for i, n := range nodes {
		b.WriteString(strings.Repeat("  ", deep[i]) + plainStamp(n.Key) + " " + n.Tag + " " + strconv.Quote(n.Text))
		for _, a := range n.Attrs {
			b.WriteString(" " + a.Name + "=" + strconv.Quote(a.Value))
		}
		b.WriteString("\n")
	}
	return b.String()
}

// shape tells a tree's keys alone, each one's kids in brackets behind it.
func shape(t api.VNode) string {
	var kids []string
	for _, kid := range t.Kids {
		kids = append(kids, shape(kid))
	}
	if kids == nil {
		return plainStamp(t.Key)
	}
	return plainStamp(t.Key) + "(" + strings.Join(kids, " ") + ")"
}

func isZeroTree(t api.VNode) bool {
	return t.Key == root && t.Tag == "" && t.Text == "" && len(t.Attrs) == 0 && len(t.Kids) == 0
}

// The model: the tree and what is held as plain data, gone through from the front each time.
type plain struct {
	tree api.VNode
	held []api.VNode
}

// in tells the node of that key in t, where it lies; nil, if there is none.
func in(t *api.VNode, k api.Stamp) *api.VNode {
	nodes, _ := laid(t)
	for _, n := range nodes {
		if n.Key == k {
			return n
		}
	}
	return nil
}

// over tells the node of t of which that one is a kid, and its place there.
func over(t *api.VNode, k api.Stamp) (*api.VNode, int) {
	nodes, _ := laid(t)
	for _, n := range nodes {
		if at := kid(n, k); at >= 0 {
			return n, at
		}
	}
	return nil, -1
}

// kid tells the place of that kid of n; -1, if there is none.
func kid(n *api.VNode, k api.Stamp) int {
	return slices.IndexFunc(n.Kids, func(kid api.VNode) bool { return kid.Key == k })
}

// trees tells the tree, and each one that is held.
func (m *plain) trees() []*api.VNode {
	out := []*api.VNode{&m.tree}
	for i := range m.held {
		out = append(out, &m.held[i])
	}
	return out
}

func (m *plain) anywhere(k api.Stamp) *api.VNode {
	for _, t := range m.trees() {
		if n := in(t, k); n != nil {
			return n
		}
	}
	return nil
}

func (m *plain) isHeld(k api.Stamp) int {
	return slices.IndexFunc(m.held, func(t api.VNode) bool { return t.Key == k })
}

func cut(l []api.VNode, at int) []api.VNode {
	return append(slices.Clone(l[:at]), l[at+1:]...)
}

// lay tells l with n right behind the one of that key (zero: ahead of all).
func lay(l []api.VNode, n api.VNode, after api.Stamp) []api.VNode {
	at := 1 + slices.IndexFunc(l, func(t api.VNode) bool { return t.Key == after })
	return slices.Concat(l[:at], []api.VNode{n}, l[at:])
}

func (m *plain) do(p api.Patch) api.Errno {
	if e := plainCheck(p); e != api.OK {
		return e
	}
	switch p.Kind {
	case api.PTake:
		return m.take(p)
	case api.PDrop:
		at := m.isHeld(p.Key)
		if at < 0 {
			return api.ErrNone
		}
		if len(m.held[at].Kids) > 0 {
			return api.ErrState
		}
		m.held = cut(m.held, at)
	case api.PMake:
		if m.anywhere(p.Key) != nil {
			return api.ErrTwice
		}
		all := 0
		for _, t := range m.trees() {
			nodes, _ := laid(t)
			all += len(nodes)
		}
		if all >= 8192 {
			return api.ErrFull
		}
		m.held = append(m.held, api.VNode{Key: p.Key, Tag: p.Name})
	case api.PPut:
		at, above := m.isHeld(p.Key), in(&m.tree, p.Parent)
		if at < 0 || above == nil {
			return api.ErrNone
		}
		if p.After != root && kid(above, p.After) < 0 {
			return api.ErrState
		}
		above.Kids = lay(above.Kids, m.held[at], p.After)
		m.held = cut(m.held, at)
	case api.PShift:
		return m.shift(p)
	default:
		return m.write(p)
	}
	return api.OK
}

func (m *plain) take(p api.Patch) api.Errno {
	if m.isHeld(p.Key) >= 0 || m.anywhere(p.Key) == nil {
		return api.ErrNone
	}
	if m.tree.Key == p.Key {
		return api.ErrState
	}
	for _, t := range m.trees() {
		if above, at := over(t, p.Key); above != nil {
			taken := above.Kids[at]
			above.Kids = cut(above.Kids, at)
			m.held = append(m.held, taken)
			break
		}
	}
	return api.OK
}

func (m *plain) shift(p api.Patch) api.Errno {
	if in(&m.tree, p.Key) == nil {
		return api.ErrNone
	}
	above, at := over(&m.tree, p.Key)
	if above == nil || p.After != root && kid(above, p.After) < 0 {
		return api.ErrState
	}
	above.Kids = lay(cut(above.Kids, at), above.Kids[at], p.After)
	return api.OK
}

func (m *plain) write(p api.Patch) api.Errno {
	n := m.anywhere(p.Key)
	if n == nil {
		return api.ErrNone
	}
	attrs := map[string]string{}
	for _, a := range n.Attrs {
		attrs[a.Name] = a.Value
	}
	_, isThere := attrs[p.Name]
	switch p.Kind {
	case api.PTag:
		n.Tag = p.Name
	case api.PText:
		n.Text = p.Value
	case api.PSet:
		attrs[p.Name] = p.Value
		if len(attrs) > 4096 {
			return api.ErrFull
		}
	case api.PClear:
		if !isThere {
			return api.ErrNone
		}
		delete(attrs, p.Name)
	}
	n.Attrs = nil
	for name, value := range attrs {
		n.Attrs = append(n.Attrs, api.Attr{Name: name, Value: value})
	}
	slices.SortFunc(n.Attrs, func(a, b api.Attr) int { return strings.Compare(a.Name, b.Name) })
	return api.OK
}

func plainApply(t api.VNode, l []api.Patch) (api.VNode, int, api.Errno) {
	if e := vtree.Check(t); e != api.OK {
		return api.VNode{}, 0, e
	}
	m := plain{tree: vtree.Copy(t)}
	for at, p := range l {
		if e := m.do(p); e != api.OK {
			return api.VNode{}, at, e
		}
	}
	if len(m.held) > 0 {
		return api.VNode{}, len(l), api.ErrState
	}
	return m.tree, len(l), api.OK
}

func linesOf(l []api.Patch) string {
	out := ""
	for _, p := range l {
		out += plainText(p) + "\n"
	}
	return out
}

// wantAsModel holds Apply against the model.
func wantAsModel(t testing.TB, x api.VNode, l []api.Patch) (api.VNode, api.Errno) {
	t.Helper()
	got, n, e := Apply(x, l)
	want, m, why := plainApply(x, l)
	if n != m || e != why {
		t.Fatalf("%sby\n%sgot %d %d, want %d %d", spelt(x), linesOf(l), n, e, m, why)
	}
	if e != api.OK && !isZeroTree(got) {
		t.Fatalf("%sby\n%sgot beside %d\n%s", spelt(x), linesOf(l), e, spelt(got))
	}
	if spelt(got) != spelt(want) {
		t.Fatalf("%sby\n%sgot\n%swant\n%s", spelt(x), linesOf(l), spelt(got), spelt(want))
	}
	return got, e
}

// steps tells the steps of these texts.
func steps(t testing.TB, texts ...string) []api.Patch {
	t.Helper()
	l, e := Parse(strings.Join(texts, "\n") + "\n")
	if e != api.OK {
		t.Fatalf("%q: %d", texts, e)
	}
	return l
}

// split tells the texts between the commas.
func split(s string) []string { return strings.Split(s, ", ") }

func wantShape(t testing.TB, x api.VNode, texts, want string) {
	t.Helper()
	l := steps(t, split(texts)...)
	got, n, e := Apply(x, l)
	if shape(got) != want || n != len(l) || e != api.OK {
		t.Errorf("%s: %s %d %d, want %s", texts, shape(got), n, e, want)
	}
	wantAsModel(t, x, l)
}

func wantRefused(t testing.TB, x api.VNode, texts string, at int, want api.Errno) {
	t.Helper()
	l := steps(t, split(texts)...)
	got, n, e := Apply(x, l)
	if n != at || e != want || !isZeroTree(got) {
		t.Errorf("%s: %s %d %d, want %d %d", texts, shape(got), n, e, at, want)
	}
	wantAsModel(t, x, l)
}

// The examples

func TestExamples(t *testing.T) {
	x := elem("root", elem("1.0"), elem("2.0"))
	wantShape(t, x, "shift 1.0 2.0", "root(2.0 1.0)")
	wantShape(t, x, "take 1.0, put 1.0 2.0 -", "root(2.0(1.0))")
	wantRefused(t, x, "take 1.0", 1, api.ErrState)
	wantRefused(t, x, "drop 1.0", 0, api.ErrNone)
}

// P17.2

func TestNoStepsAtAll(t *testing.T) {
	for _, l := range [][]api.Patch{nil, {}} {
		got, n, e := Apply(family(), l)
		if spelt(got) != spelt(family()) || n != 0 || e != api.OK {
			t.Errorf("%s %d %d", spelt(got), n, e)
		}
	}
}

func TestWrongTrees(t *testing.T) {
	long := elem("root", elem("1.0"))
	long.Kids[0].Text = strings.Repeat("t", 257)
	nameless := elem("root", elem("1.0"))
	nameless.Kids[0].Tag = ""
	unsorted := elem("root")
	unsorted.Attrs = []api.Attr{{Name: "b"}, {Name: "a"}}
	endless := elem("root", elem("1.0"))
	endless.Kids[0].Kids = endless.Kids
	for _, c := range []struct {
		x    api.VNode
		want api.Errno
	}{
		{api.VNode{}, api.ErrName},
		{elem("root", elem("root")), api.ErrForm},
		{elem("root", elem("trash")), api.ErrForm},
		{api.VNode{Key: stamp(1, 64), Tag: "p"}, api.ErrForm},
		{elem("root", elem("1.0"), elem("1.0")), api.ErrTwice},
		{elem("1.0", elem("1.0")), api.ErrTwice},
		{long, api.ErrLong},
		{nameless, api.ErrName},
		{unsorted, api.ErrForm},
		{endless, api.ErrLong},
		{wide(8193), api.ErrLong},
	} {
		// Ahead of whatever is wrong with the steps.
		for _, l := range [][]api.Patch{nil, {sample(api.PTake)}, {{}}, {sample(api.PTag), {Kind: 10}}, steps(t, "tag root top")} {
			got, n, e := Apply(c.x, l)
			if e != c.want || n != 0 || !isZeroTree(got) {
				t.Errorf("%d %d, want %d", n, e, c.want)
			}
		}
	}
}

func TestWrongSteps(t *testing.T) {
	for _, c := range []struct {
		p    api.Patch
		want api.Errno
	}{
		{api.Patch{}, api.ErrRange},
		{api.Patch{Kind: 10, Key: stamp(1, 0)}, api.ErrRange},
		{api.Patch{Kind: -1, Key: stamp(1, 0)}, api.ErrRange},
		{api.Patch{Kind: api.PTake}, api.ErrForm},
		{api.Patch{Kind: api.PTake, Key: trash}, api.ErrForm},
		{api.Patch{Kind: api.PShift}, api.ErrForm},
		{api.Patch{Kind: api.PMake, Name: "p"}, api.ErrForm},
		{api.Patch{Kind: api.PPut, Key: stamp(1, 0), Parent: stamp(1, 0)}, api.ErrForm},
		{api.Patch{Kind: api.PShift, Key: stamp(1, 0), After: stamp(1, 0)}, api.ErrForm},
		{api.Patch{Kind: api.PTag, Key: stamp(1, 0), Name: "P"}, api.ErrName},
		{api.Patch{Kind: api.PTag, Key: stamp(9, 0), Name: "P"}, api.ErrName}, // ahead of: there is no such node
		{api.Patch{Kind: api.PText, Key: stamp(9, 0), Value: strings.Repeat("v", 257)}, api.ErrLong},
		{api.Patch{Kind: api.PClear, Key: stamp(9, 0), Name: "id", Value: "v"}, api.ErrForm},
		{api.Patch{Kind: api.PTake, Key: stamp(9, 0), After: stamp(1, 0)}, api.ErrForm},
	} {
		for ahead := range 3 {
			l := append(steps(t, "tag root a", "shift 1.0 2.0", "text 3.0 \"\"")[:ahead], c.p, api.Patch{Kind: 77})
			got, n, e := Apply(family(), l)
			if n != ahead || e != c.want || !isZeroTree(got) {
				t.Errorf("%+v: %d %d, want %d %d", c.p, n, e, ahead, c.want)
			}
			wantAsModel(t, family(), l)
		}
	}
}

func TestTake(t *testing.T) {
	x := family()
	wantShape(t, x, "take 1.0, put 1.0 2.0 -", "root(2.0(1.0(3.0(5.0) 4.0)))")
	wantShape(t, x, "take 3.0, put 3.0 root -", "root(3.0(5.0) 1.0(4.0) 2.0)")
	wantShape(t, x, "take 4.0, put 4.0 5.0 -", "root(1.0(3.0(5.0(4.0))) 2.0)")
	// What is beneath one that is held is taken, too; then it is held itself.
	wantShape(t, x, "take 1.0, take 3.0, take 5.0, put 5.0 root 2.0, put 3.0 5.0 -, put 1.0 root 2.0", "root(2.0 1.0(4.0) 5.0(3.0))")
	wantShape(t, x, "take 1.0, take 5.0, put 1.0 root -, put 5.0 1.0 3.0", "root(1.0(3.0 5.0 4.0) 2.0)")
	wantRefused(t, x, "take 9.0", 0, api.ErrNone)
	wantRefused(t, x, "take 1.0, take 1.0", 1, api.ErrNone)
	wantRefused(t, x, "take 1.0, take 3.0, take 3.0", 2, api.ErrNone)
	wantRefused(t, x, "make 9.0 p, take 9.0", 1, api.ErrNone)
	wantRefused(t, x, "take 2.0, drop 2.0, take 2.0", 2, api.ErrNone)
	for _, top := range []string{"9.9", "trash"} {
		x.Key = key(top)
		wantShape(t, x, "take 2.0, put 2.0 "+top+" -", top+"(2.0 1.0(3.0(5.0) 4.0))")
		if top == "9.9" {
			wantRefused(t, x, "take 9.9", 0, api.ErrState)
			wantRefused(t, x, "take 2.0, take 9.9", 1, api.ErrState)
		}
	}
}

func TestDrop(t *testing.T) {
	x := family()
	wantShape(t, x, "take 2.0, drop 2.0", "root(1.0(3.0(5.0) 4.0))")
	wantShape(t, x, "take 5.0, take 3.0, drop 3.0, drop 5.0", "root(1.0(4.0) 2.0)")
	wantShape(t, x, "take 3.0, take 5.0, drop 5.0, drop 3.0", "root(1.0(4.0) 2.0)")
	wantShape(t, x, "make 9.0 p, drop 9.0", shape(x))
	wantShape(t, x, "take 2.0, drop 2.0, make 2.0 b, put 2.0 5.0 -", "root(1.0(3.0(5.0(2.0)) 4.0))")
	wantRefused(t, x, "drop 2.0", 0, api.ErrNone)
	wantRefused(t, x, "drop 9.0", 0, api.ErrNone)
	wantRefused(t, x, "take 3.0, drop 3.0", 1, api.ErrState)
	wantRefused(t, x, "take 3.0, drop 5.0", 1, api.ErrNone)
	wantRefused(t, x, "take 2.0, drop 2.0, drop 2.0", 2, api.ErrNone)
	wantRefused(t, x, "take 2.0, put 2.0 1.0 -, drop 2.0", 2, api.ErrNone)
	wantRefused(t, x, "take 1.0, take 4.0, drop 4.0, drop 1.0", 3, api.ErrState)
	x.Key = key("9.9")
	wantRefused(t, x, "drop 9.9", 0, api.ErrNone)
}

// A dropped node's key is free: what is made by it then has nothing of the old one.
func TestMadeNodesAreBare(t *testing.T) {
	x := family()
	x.Kids[1].Kids = nil
	got, e := wantAsModel(t, x, steps(t, "take 2.0", "drop 2.0", "make 2.0 b", "put 2.0 root -"))
	if e != api.OK || got.Kids[0].Tag != "b" || got.Kids[0].Text != "" || len(got.Kids[0].Attrs) != 0 || len(got.Kids[0].Kids) != 0 {
		t.Errorf("%s %d", spelt(got), e)
	}
}

func TestMake(t *testing.T) {
	x := family()
	wantShape(t, x, "make 9.0 p, put 9.0 root -", "root(9.0 1.0(3.0(5.0) 4.0) 2.0)")
	wantShape(t, x, "make 9.0 p, make 8.0 p, put 8.0 2.0 -, put 9.0 8.0 -", "root(1.0(3.0(5.0) 4.0) 2.0(8.0(9.0)))")
	wantRefused(t, x, "make 9.0 p", 1, api.ErrState)
	for _, k := range []string{"1.0", "2.0", "5.0"} {
		wantRefused(t, x, "make "+k+" p", 0, api.ErrTwice)
	}
	wantRefused(t, x, "take 2.0, make 2.0 p", 1, api.ErrTwice)
	wantRefused(t, x, "take 1.0, make 5.0 p", 1, api.ErrTwice)
	wantRefused(t, x, "make 9.0 p, make 9.0 b", 1, api.ErrTwice)
	x.Key = key("9.9")
	wantRefused(t, x, "make 9.9 p", 0, api.ErrTwice)
}

func TestPut(t *testing.T) {
	x := family()
	for after, want := range map[string]string{
		"-":   "root(1.0(2.0 3.0(5.0) 4.0))",
		"3.0": "root(1.0(3.0(5.0) 2.0 4.0))",
		"4.0": "root(1.0(3.0(5.0) 4.0 2.0))",
	} {
		wantShape(t, x, "take 2.0, put 2.0 1.0 "+after, want)
	}
	// Back to where it stood.
	wantShape(t, x, "take 2.0, put 2.0 root 1.0", shape(x))
	wantShape(t, x, "take 1.0, put 1.0 root -", shape(x))
	// Not held itself, or no such parent in the tree.
	wantRefused(t, x, "put 2.0 1.0 -", 0, api.ErrNone)
	wantRefused(t, x, "put 9.0 1.0 -", 0, api.ErrNone)
	wantRefused(t, x, "take 1.0, put 3.0 2.0 -", 1, api.ErrNone)
	wantRefused(t, x, "take 2.0, put 2.0 9.0 -", 1, api.ErrNone)
	wantRefused(t, x, "take 2.0, put 2.0 trash -", 1, api.ErrNone)
	wantRefused(t, x, "take 2.0, put 2.0 1.0 -, put 2.0 1.0 -", 2, api.ErrNone)
	// A parent that is held, or beneath one that is; beneath itself.
	wantRefused(t, x, "take 2.0, take 1.0, put 2.0 1.0 -", 2, api.ErrNone)
	wantRefused(t, x, "take 2.0, take 1.0, put 2.0 3.0 5.0", 2, api.ErrNone)
	wantRefused(t, x, "take 1.0, put 1.0 3.0 -", 1, api.ErrNone)
	wantRefused(t, x, "take 1.0, put 1.0 5.0 -", 1, api.ErrNone)
	// No kid of the parent: none at all, the parent itself, its parent, a kid's kid, one that is held.
	for _, after := range []string{"9.0", "1.0", "5.0", "2.1"} {
		wantRefused(t, x, "take 2.0, put 2.0 1.0 "+after, 1, api.ErrState)
	}
	wantRefused(t, x, "take 2.0, take 4.0, put 2.0 1.0 4.0", 2, api.ErrState)
	wantRefused(t, x, "take 4.0, make 9.0 p, put 4.0 root 9.0", 2, api.ErrState)
	wantRefused(t, x, "take 4.0, drop 4.0, take 2.0, put 2.0 1.0 4.0", 3, api.ErrState)
	// There is no such node counts ahead of: no such sibling.
	wantRefused(t, x, "put 9.0 1.0 9.1", 0, api.ErrNone)
	wantRefused(t, x, "take 2.0, put 2.0 9.0 9.1", 1, api.ErrNone)
	// The topmost node is put nowhere.
	x.Key = key("9.9")
	wantRefused(t, x, "put 9.9 1.0 -", 0, api.ErrNone)
	wantRefused(t, x, "take 2.0, put 2.0 root -", 1, api.ErrNone)
	wantRefused(t, x, "take 2.0, put 2.0 9.9 9.9", 1, api.ErrState)
}

func TestShift(t *testing.T) {
	x := elem("root", elem("1.0"), elem("2.0", elem("4.0")), elem("3.0"))
	for l, want := range map[string]string{
		"shift 1.0 -":   "root(1.0 2.0(4.0) 3.0)",
		"shift 1.0 2.0": "root(2.0(4.0) 1.0 3.0)",
		"shift 1.0 3.0": "root(2.0(4.0) 3.0 1.0)",
		"shift 2.0 -":   "root(2.0(4.0) 1.0 3.0)",
		"shift 2.0 1.0": "root(1.0 2.0(4.0) 3.0)",
		"shift 2.0 3.0": "root(1.0 3.0 2.0(4.0))",
		"shift 3.0 -":   "root(3.0 1.0 2.0(4.0))",
		"shift 3.0 1.0": "root(1.0 3.0 2.0(4.0))",
		"shift 3.0 2.0": "root(1.0 2.0(4.0) 3.0)",
		"shift 4.0 -":   "root(1.0 2.0(4.0) 3.0)",
		// DOC.md's three kids turned round.
		"shift 2.0 3.0, shift 1.0 2.0": "root(3.0 2.0(4.0) 1.0)",
	} {
		wantShape(t, x, l, want)
	}
	wantRefused(t, x, "shift 9.0 -", 0, api.ErrNone)
	wantRefused(t, x, "shift 9.0 1.0", 0, api.ErrNone)
	// Held, or beneath one that is held: not in the tree.
	wantRefused(t, x, "take 1.0, shift 1.0 -", 1, api.ErrNone)
	wantRefused(t, x, "take 1.0, shift 1.0 2.0", 1, api.ErrNone)
	wantRefused(t, x, "take 2.0, shift 4.0 -", 1, api.ErrNone)
	wantRefused(t, x, "make 5.0 p, shift 5.0 -", 1, api.ErrNone)
	// No sibling.
	for _, after := range []string{"9.0", "4.0"} {
		wantRefused(t, x, "shift 1.0 "+after, 0, api.ErrState)
	}
	wantRefused(t, x, "shift 4.0 2.0", 0, api.ErrState)
	wantRefused(t, x, "shift 4.0 1.0", 0, api.ErrState)
	wantRefused(t, x, "take 2.0, shift 1.0 2.0", 1, api.ErrState)
	wantRefused(t, x, "take 3.0, drop 3.0, shift 1.0 3.0", 2, api.ErrState)
	x.Key = key("9.9")
	wantRefused(t, x, "shift 9.9 -", 0, api.ErrState)
	wantRefused(t, x, "shift 9.9 1.0", 0, api.ErrState)
	wantRefused(t, x, "shift 1.0 9.9", 0, api.ErrState)
}

func wantSpelt(t testing.TB, got api.VNode, want ...string) {
	t.Helper()
	if text := strings.Join(want, "\n") + "\n"; spelt(got) != text {
		t.Errorf("got\n%swant\n%s", spelt(got), text)
	}
}

func TestTagTextSetClear(t *testing.T) {
	x := family()
	got, e := wantAsModel(t, x, steps(t,
		"tag root top", `text root "all"`, `set root lang "en"`,
		"tag 1.0 b", `set 1.0 c "new"`, `set 1.0 b "other"`, `set 1.0 a ""`, `set 1.0 e "last"`, "clear 1.0 d",
		`text 3.0 ""`, `set 4.0 id "\00\ff\0a"`,
		"clear 2.0 id", `text 2.0 "2"`, `text 2.0 "22"`))
	if e != api.OK {
		t.Fatal(e)
	}
	wantSpelt(t, got,
		`root top "all" lang="en"`,
		`  1.0 b "" a="" b="other" c="new" e="last"`,
		`    3.0 p ""`,
		`      5.0 p ""`,
		`    4.0 p "" id="\x00\xff\n"`,
		`  2.0 li "22"`)
}

// Wherever a node is: in the tree, held, or beneath one that is held.
func TestWrittenWhileHeld(t *testing.T) {
	write := func(k string) string {
		return "tag " + k + " em, text " + k + ` "w", set ` + k + ` new "n", set ` + k + ` gone "g", clear ` + k + " gone"
	}
	got, e := wantAsModel(t, family(), steps(t, split("take 1.0, "+write("1.0")+", "+write("3.0")+", "+write("5.0")+", make 9.0 p, "+write("9.0")+", put 1.0 2.0 -, put 9.0 1.0 4.0")...))
	if e != api.OK {
		t.Fatal(e)
	}
	wantSpelt(t, got,
		`root root ""`,
		`  2.0 li "two" id="x"`,
		`    1.0 em "w" b="1" d="2" new="n"`,
		`      3.0 em "w" new="n"`,
		`        5.0 em "w" new="n"`,
		`      4.0 p ""`,
		`      9.0 em "w" new="n"`)
}

func TestWritingWhereNobodyIs(t *testing.T) {
	x := family()
	for _, k := range []string{"9.0", "trash"} {
		for _, l := range []string{"tag " + k + " p", "text " + k + ` ""`, "set " + k + ` id ""`, "clear " + k + " id"} {
			wantRefused(t, x, l, 0, api.ErrNone)
		}
	}
	for _, l := range []string{"tag 2.0 p", `text 2.0 ""`, `set 2.0 id ""`, "clear 2.0 id"} {
		wantRefused(t, x, "take 2.0, drop 2.0, "+l, 2, api.ErrNone)
	}
	for _, l := range []string{"clear 1.0 a", "clear 1.0 c", "clear 1.0 e", "clear root b", "clear 4.0 b"} {
		wantRefused(t, x, l, 0, api.ErrNone)
	}
	wantRefused(t, x, "clear 1.0 b, clear 1.0 b", 1, api.ErrNone)
	wantRefused(t, x, "clear 1.0 b, clear 1.0 d, clear 1.0 d", 2, api.ErrNone)
	// The root is a node like others: none, if another one is topmost.
	x.Key = trash
	wantRefused(t, x, `text root ""`, 0, api.ErrNone)
	wantShape(t, x, `text trash "t"`, strings.Replace(shape(family()), "root", "trash", 1))
}

// What is held at the end stands behind the last step; what can't be done, ahead of that.
func TestHeldAtTheEnd(t *testing.T) {
	x := family()
	wantRefused(t, x, "take 1.0", 1, api.ErrState)
	wantRefused(t, x, "take 5.0, tag 1.0 b", 2, api.ErrState)
	wantRefused(t, x, "take 1.0, take 3.0, put 1.0 2.0 -", 3, api.ErrState)
	wantRefused(t, x, "make 9.0 p", 1, api.ErrState)
	wantRefused(t, x, "make 9.0 p, make 8.0 p, drop 9.0", 3, api.ErrState)
	wantRefused(t, x, "take 1.0, clear 2.0 no, take 2.0", 1, api.ErrNone)
}

func TestTheFirstStepThatCantBeDone(t *testing.T) {
	wantRefused(t, family(), "tag 1.0 b, clear 1.0 no, take 9.0, shift 1.0 9.0", 1, api.ErrNone)
	wantRefused(t, family(), "tag 1.0 b, shift 1.0 9.0, clear 1.0 no, take 9.0", 1, api.ErrState)
	l := append(steps(t, "take 9.0"), api.Patch{Kind: 77})
	if got, n, e := Apply(family(), l); n != 0 || e != api.ErrNone || !isZeroTree(got) {
		t.Errorf("%d %d", n, e)
	}
}

// wide tells a root with n - 1 kids, from 1.1 on; chain: each one beneath the one ahead.
func wide(n int) api.VNode {
	x := elem("root")
	for i := 1; i < n; i++ {
		x.Kids = append(x.Kids, api.VNode{Key: stamp(i, 1), Tag: "p"})
	}
	return x
}

func chain(n int) api.VNode {
	x := api.VNode{Key: stamp(n-1, 1), Tag: "p"}
	for i := n - 2; i >= 0; i-- {
		x = api.VNode{Key: stamp(i, 1), Tag: "p", Kids: []api.VNode{x}}
	}
	x.Key = root
	return x
}

func TestMaxNodes(t *testing.T) {
	for _, x := range []api.VNode{wide(8192), chain(8192)} {
		wantRefused(t, x, "make 9.0 p", 0, api.ErrFull)
		wantRefused(t, x, "make 5.1 p", 0, api.ErrTwice) // ahead of ErrFull
		// Those that are held count, and those beneath them.
		wantRefused(t, x, "take 8191.1, make 9.0 p", 1, api.ErrFull)
		wantRefused(t, x, "take 8000.1, make 9.0 p", 1, api.ErrFull)
		wantRefused(t, x, "take 8191.1, drop 8191.1, make 9.0 p, make 8191.1 p", 3, api.ErrFull)
		got, n, e := Apply(x, steps(t, "take 8191.1", "drop 8191.1", "make 9.0 p", "put 9.0 root -"))
		if vtree.Count(got) != 8192 || n != 4 || e != api.OK || got.Kids[0].Key != key("9.0") {
			t.Errorf("%d nodes, %d %d", vtree.Count(got), n, e)
		}
	}
	for _, x := range []api.VNode{wide(8191), chain(8191)} {
		wantRefused(t, x, "make 9.0 p, make 9.2 p", 1, api.ErrFull)
		got, n, e := Apply(x, steps(t, "make 9.0 p", "put 9.0 root -"))
		if vtree.Count(got) != 8192 || n != 2 || e != api.OK || vtree.Check(got) != api.OK {
			t.Errorf("%d nodes, %d %d", vtree.Count(got), n, e)
		}
	}
}

func TestMaxAttrs(t *testing.T) {
	x := family()
	x.Kids[0].Attrs = nil
	for i := range 4096 {
		x.Kids[0].Attrs = append(x.Kids[0].Attrs, api.Attr{Name: "a" + strconv.Itoa(10000+i), Value: "v"})
	}
	for _, name := range []string{"a", "a12000-", "b"} {
		wantRefused(t, x, "set 1.0 "+name+` ""`, 0, api.ErrFull)
		got, e := wantAsModel(t, x, steps(t, "clear 1.0 a12000", "set 1.0 "+name+` "x"`))
		if e != api.OK || len(got.Kids[0].Attrs) != 4096 || vtree.Check(got) != api.OK {
			t.Errorf("%d attributes, %d", len(got.Kids[0].Attrs), e)
		}
	}
	wantRefused(t, x, `clear 1.0 a14095, set 1.0 a ""`+`, set 1.0 b ""`, 2, api.ErrFull)
	// One that is there may be set anew; other nodes have room.
	got, e := wantAsModel(t, x, steps(t, `set 1.0 a10000 "x"`, `set 1.0 a14095 "y"`, `set 2.0 a ""`))
	if e != api.OK || got.Kids[0].Attrs[0].Value != "x" || got.Kids[0].Attrs[4095].Value != "y" {
		t.Errorf("%d", e)
	}
	// The last one that there is room for.
	x.Kids[0].Attrs = x.Kids[0].Attrs[:4095]
	got, e = wantAsModel(t, x, steps(t, `set 1.0 a10000-x "x"`))
	if e != api.OK || len(got.Kids[0].Attrs) != 4096 || got.Kids[0].Attrs[1].Value != "x" {
		t.Errorf("%d", e)
	}
}

func TestTextsAtTheirLimit(t *testing.T) {
	long := strings.Repeat("\xff", 256)
	l := []api.Patch{{Kind: api.PText, Key: stamp(1, 0), Value: long}, {Kind: api.PSet, Key: stamp(1, 0), Name: strings.Repeat("z", 32), Value: long}, {Kind: api.PTag, Name: strings.Repeat("z", 32)}}
	got, e := wantAsModel(t, family(), l)
	if e != api.OK || got.Kids[0].Text != long || vtree.Check(got) != api.OK {
		t.Errorf("%d", e)
	}
}

// everyStep tells steps of all kinds with these keys in all places.
func everyStep(keys ...string) []api.Patch {
	var out []api.Patch
	add := func(p api.Patch) {
		if plainCheck(p) == api.OK {
			out = append(out, p)
		}
	}
	for _, k := range keys {
		for _, kind := range []int{api.PTake, api.PDrop, api.PText} {
			add(api.Patch{Kind: kind, Key: key(k)})
		}
		for _, kind := range []int{api.PMake, api.PTag, api.PSet, api.PClear} {
			add(api.Patch{Kind: kind, Key: key(k), Name: "b"})
		}
		for _, after := range keys {
			add(api.Patch{Kind: api.PShift, Key: key(k), After: key(after)})
			for _, parent := range keys {
				add(api.Patch{Kind: api.PPut, Key: key(k), Parent: key(parent), After: key(after)})
			}
		}
	}
	return out
}

// All patches of up to four steps: behind each that can be done, each step.
func TestAllShortPatches(t *testing.T) {
	some := everyStep("root", "1.0", "2.0", "3.0", "4.0")
	x := elem("root", elem("1.0", elem("2.0")), elem("3.0"))
	count := map[api.Errno]int{}
	var all func(m plain, l []api.Patch)
	all = func(m plain, l []api.Patch) {
		for _, p := range some {
			own := plain{tree: vtree.Copy(m.tree)}
			for _, n := range m.held {
				own.held = append(own.held, vtree.Copy(n))
			}
			why := own.do(p)
			longer := append(slices.Clone(l), p)
			got, n, e := Apply(x, longer)
			count[e]++
			if why != api.OK {
				if n != len(l) || e != why || !isZeroTree(got) {
					t.Fatalf("%s%d %d, want %d %d", linesOf(longer), n, e, len(l), why)
				}
				continue
			}
			if n != len(longer) || (len(own.held) > 0) != (e == api.ErrState) || (len(own.held) == 0) != (e == api.OK) {
				t.Fatalf("%s%d %d", linesOf(longer), n, e)
			}
			if e == api.OK && !vtree.Same(got, own.tree) {
				t.Fatalf("%sgot\n%swant\n%s", linesOf(longer), spelt(got), spelt(own.tree))
			}
			if len(longer) < 4 && p.Kind != api.PText && p.Kind != api.PTag {
				all(own, longer)
			}
		}
	}
	all(plain{tree: x}, nil)
	for _, e := range []api.Errno{api.OK, api.ErrNone, api.ErrTwice, api.ErrState} {
		if count[e] == 0 {
			t.Errorf("none with %d", e)
		}
	}
}

// grown tells some tree of n nodes.
func grown(p *rand.Rand, n int) api.VNode {
	x := api.VNode{Tag: "root"}
	if p.Intn(3) == 0 {
		x.Key = []api.Stamp{trash, stamp(77, 7)}[p.Intn(2)]
	}
	for i := 1; i < n; i++ {
		nodes, _ := laid(&x)
		above := nodes[p.Intn(len(nodes))]
		kid := api.VNode{Key: stamp(1+i/3, i%3), Tag: []string{"p", "b", "li"}[p.Intn(3)], Text: anyValue(p)}
		for _, name := range []string{"a", "b", "c", "d"} {
			if p.Intn(3) == 0 {
				kid.Attrs = append(kid.Attrs, api.Attr{Name: name, Value: anyValue(p)})
			}
		}
		above.Kids = slices.Insert(above.Kids, p.Intn(len(above.Kids)+1), kid)
	}
	return x
}

// likely tells a step that can often be done: of keys that are there, held ones where they must be.
func likely(p *rand.Rand, m *plain, n int) api.Patch {
	anyKey := func() api.Stamp {
		if p.Intn(15) == 0 {
			return m.tree.Key
		}
		i := 1 + p.Intn(n+2)
		return stamp(1+i/3, i%3)
	}
	s := api.Patch{Kind: 1 + p.Intn(9), Key: anyKey()}
	if len(m.held) > 0 && (s.Kind == api.PDrop || s.Kind == api.PPut || p.Intn(3) == 0) {
		s.Key = m.held[p.Intn(len(m.held))].Key
		if s.Kind < api.PTag {
			s.Kind = []int{api.PDrop, api.PPut, api.PPut, api.PTake}[p.Intn(4)]
		}
	}
	above := in(&m.tree, anyKey())
	switch s.Kind {
	case api.PMake, api.PTag:
		s.Name = []string{"p", "b", "li"}[p.Intn(3)]
	case api.PPut:
		s.Parent = anyKey()
		if above != nil {
			s.Parent = above.Key
		}
	case api.PShift:
		above, _ = over(&m.tree, s.Key)
	case api.PText:
		s.Value = anyValue(p)
	case api.PSet:
		s.Value = anyValue(p)
		fallthrough
	case api.PClear:
		s.Name = []string{"a", "b", "c", "d"}[p.Intn(4)]
	}
	if s.Kind == api.PPut || s.Kind == api.PShift {
		if above != nil && len(above.Kids) > 0 && p.Intn(3) > 0 {
			s.After = above.Kids[p.Intn(len(above.Kids))].Key
		} else if p.Intn(6) == 0 {
			s.After = anyKey()
		}
	}
	return s
}

// done tells a patch of up to n steps all of which can be done, at the end of which nothing is held.
func done(p *rand.Rand, x api.VNode, n int) []api.Patch {
	m := plain{tree: vtree.Copy(x)}
	size := vtree.Count(x)
	var out []api.Patch
	for range n {
		s := likely(p, &m, size)
		if m.do(s) == api.OK {
			out = append(out, s)
		}
	}
	for len(m.held) > 0 {
		s := api.Patch{Kind: api.PPut, Key: m.held[0].Key, Parent: m.tree.Key}
		m.do(s)
		out = append(out, s)
	}
	return out
}

func TestManyPatchesAreAsTheModel(t *testing.T) {
	p := rand.New(rand.NewSource(171))
	count := map[api.Errno]int{}
	for range 3000 {
		x := grown(p, 1+p.Intn(14))
		l := done(p, x, p.Intn(40))
		_, e := wantAsModel(t, x, l)
		count[e]++
		// Cut off, and with another step in the midst.
		at := p.Intn(len(l) + 1)
		_, e = wantAsModel(t, x, l[:at])
		count[e]++
		m := plain{tree: vtree.Copy(x)}
		_, e = wantAsModel(t, x, slices.Insert(slices.Clone(l), at, likely(p, &m, 14)))
		count[e]++
		_, e = wantAsModel(t, x, slices.Insert(slices.Clone(l), at, rightStep(p)))
		count[e]++
	}
	for e, least := range map[api.Errno]int{api.OK: 3000, api.ErrNone: 500, api.ErrState: 500, api.ErrTwice: 20} {
		if count[e] < least {
			t.Errorf("%d with %d", count[e], e)
		}
	}
}

// P17.4
func TestWhatComesIsRight(t *testing.T) {
	p := rand.New(rand.NewSource(174))
	for range 500 {
		x := grown(p, 1+p.Intn(30))
		got, n, e := Apply(x, done(p, x, 60))
		if e != api.OK {
			t.Fatalf("%d %d", n, e)
		}
		if e := vtree.Check(got); e != api.OK || got.Key != x.Key {
			t.Fatalf("%d of\n%s", e, spelt(got))
		}
	}
}

// P17.5
func TestTwoPatchesAreOne(t *testing.T) {
	p := rand.New(rand.NewSource(175))
	for range 500 {
		x := grown(p, 1+p.Intn(15))
		first := done(p, x, 20)
		between, _, e := Apply(x, first)
		if e != api.OK {
			t.Fatal(e)
		}
		second := done(p, between, 20)
		a, n, e := Apply(between, second)
		b, m, why := Apply(x, slices.Concat(first, second))
		if e != api.OK || why != api.OK || n != len(second) || m != len(first)+len(second) || spelt(a) != spelt(b) {
			t.Fatalf("%d %d, %d %d", n, e, m, why)
		}
	}
}

// P17.6
func TestWhoIsNotTouchedStaysAsHeWas(t *testing.T) {
	p := rand.New(rand.NewSource(176))
	stayed := 0
	for range 500 {
		x := grown(p, 1+p.Intn(20))
		l := done(p, x, 12)
		got, _, _ := Apply(x, l)
		touched := Touched(l)
		nodes, _ := laid(&x)
		for _, was := range nodes {
			is := in(&got, was.Key)
			if is == nil || slices.Contains(touched, was.Key) {
				continue
			}
			stayed++
			if is.Tag != was.Tag || is.Text != was.Text || !slices.Equal(is.Attrs, was.Attrs) {
				t.Fatalf("%s, and was %s", spelt(*is), spelt(*was))
			}
		}
	}
	if stayed < 1000 {
		t.Errorf("%d", stayed)
	}
}

// The rules that hold everywhere

// roomy tells x in new memory, with something in the room behind each list's end.
func roomy(x api.VNode) api.VNode {
	attrs := append(slices.Clone(x.Attrs), api.Attr{Name: "behind"}, api.Attr{Name: "behind"})
	var kids []api.VNode
	for _, kid := range x.Kids {
		kids = append(kids, roomy(kid))
	}
	kids = append(kids, api.VNode{Tag: "behind"}, api.VNode{Tag: "behind"})
	x.Attrs, x.Kids = attrs[:len(attrs)-2], kids[:len(kids)-2]
	return x
}

func wantBehind(t testing.TB, x api.VNode) {
	t.Helper()
	nodes, _ := laid(&x)
	for _, n := range nodes {
		attrs, kids := n.Attrs[:len(n.Attrs)+2], n.Kids[:len(n.Kids)+2]
		if attrs[len(n.Attrs)].Name != "behind" || attrs[len(n.Attrs)+1].Name != "behind" || kids[len(n.Kids)].Tag != "behind" || kids[len(n.Kids)+1].Tag != "behind" {
			t.Errorf("what lies behind a list of %v has changed", n.Key)
		}
	}
}

func TestNothingHandedInIsChanged(t *testing.T) {
	p := rand.New(rand.NewSource(1))
	for range 300 {
		x := roomy(grown(p, 1+p.Intn(12)))
		was := spelt(x)
		l := append(done(p, x, 30), api.Patch{Kind: 99})
		lines := slices.Clone(l)
		for at := range len(l) + 1 {
			Apply(x, l[:at])
		}
		if spelt(x) != was || !slices.Equal(l, lines) {
			t.Fatalf("was\n%sis\n%s", was, spelt(x))
		}
		wantBehind(t, x)
	}
}

// spoil fills all lists of x, and the room behind their ends, with something else; one by one, so that one list that is another's would be told.
func spoil(t testing.TB, x *api.VNode) {
	t.Helper()
	nodes, _ := laid(x)
	for _, n := range nodes {
		was := spelt(*x)
		attrs, kids := n.Attrs[len(n.Attrs):cap(n.Attrs)], n.Kids[len(n.Kids):cap(n.Kids)]
		for i := range attrs {
			attrs[i] = api.Attr{Name: "spoilt"}
		}
		for i := range kids {
			kids[i] = api.VNode{Tag: "spoilt"}
		}
		if spelt(*x) != was {
			t.Fatalf("two lists of one answer share memory")
		}
	}
	for _, n := range nodes {
		for i := range n.Attrs {
			n.Attrs[i] = api.Attr{Name: "spoilt"}
		}
		n.Tag = "spoilt"
	}
}

func TestAnswersAreNewMemory(t *testing.T) {
	p := rand.New(rand.NewSource(2))
	for i := range 300 {
		x := roomy(grown(p, 1+p.Intn(12)))
		l := done(p, x, 20)
		if i%3 == 0 {
			l = nil
		}
		was := spelt(x)
		a, _, _ := Apply(x, l)
		b, _, _ := Apply(x, l)
		told := spelt(b)
		spoil(t, &a)
		if spelt(x) != was || spelt(b) != told {
			t.Fatalf("the answer shares memory with what was handed in, or with another one")
		}
		wantBehind(t, x)
		spoil(t, &x)
		for i := range l {
			l[i] = api.Patch{Kind: 99}
		}
		if spelt(b) != told {
			t.Fatalf("the answer has changed with what was handed in")
		}
	}
}

// A list without elements is nil's like.
func TestListsWithoutElements(t *testing.T) {
	x := elem("root", elem("1.0"))
	x.Attrs, x.Kids[0].Attrs, x.Kids[0].Kids = []api.Attr{}, []api.Attr{}, []api.VNode{}
	l := steps(t, `set 1.0 a "x"`, "clear 1.0 a", `set root b ""`, "make 2.0 p", "put 2.0 1.0 -", "take 2.0", "drop 2.0")
	got, e := wantAsModel(t, x, l)
	if e != api.OK || len(got.Kids[0].Attrs) != 0 || len(got.Kids[0].Kids) != 0 {
		t.Errorf("%s %d", spelt(got), e)
	}
}

// Large ones

// All of a wide tree turned round, a chain laid flat, and a flat tree made a chain.
func TestLargeTrees(t *testing.T) {
	const n = 8192
	var turn, chainUp, flat []api.Patch
	for i := 1; i < n; i++ {
		turn = append(turn, api.Patch{Kind: api.PShift, Key: stamp(i, 1)})
		chainUp = append(chainUp, api.Patch{Kind: api.PTake, Key: stamp(i, 1)})
		flat = append(flat, api.Patch{Kind: api.PTake, Key: stamp(i, 1)})
	}
	for i := 1; i < n; i++ {
		parent, after := stamp(i-1, 1), stamp(i-1, 1)
		if i == 1 {
			parent, after = root, root
		}
		chainUp = append(chainUp, api.Patch{Kind: api.PPut, Key: stamp(i, 1), Parent: parent})
		flat = append(flat, api.Patch{Kind: api.PPut, Key: stamp(i, 1), After: after})
	}
	x, at, e := Apply(wide(n), turn)
	if at != n-1 || e != api.OK || x.Kids[0].Key != stamp(n-1, 1) || x.Kids[n-2].Key != stamp(1, 1) {
		t.Errorf("%d %d", at, e)
	}
	x, at, e = Apply(wide(n), chainUp)
	if at != 2*(n-1) || e != api.OK || !vtree.Same(x, chain(n)) {
		t.Errorf("%d %d", at, e)
	}
	x, at, e = Apply(chain(n), flat)
	if at != 2*(n-1) || e != api.OK || !vtree.Same(x, wide(n)) {
		t.Errorf("%d %d", at, e)
	}
}

func TestManySteps(t *testing.T) {
	for many, x := range map[int]api.VNode{1 << 18: wide(8192), 1 << 15: chain(8192)} {
		var l []api.Patch
		for i := range many / 4 {
			k := stamp(8191-i%2, 1)
			l = append(l, api.Patch{Kind: api.PShift, Key: k}, api.Patch{Kind: api.PTake, Key: k}, api.Patch{Kind: api.PPut, Key: k, Parent: stamp(8189, 1)}, api.Patch{Kind: api.PSet, Key: k, Name: "a"})
		}
		got, n, e := Apply(x, l)
		if n != many || e != api.OK || vtree.Count(got) != 8192 {
			t.Errorf("%d %d", n, e)
		}
	}
}

// readSteps tells the tree and the steps that any bytes are taken for.
func readSteps(b []byte) (api.VNode, []api.Patch) {
	x := api.VNode{Tag: "root"}
	if len(b) > 0 && b[0] >= 128 {
		x.Key = stamp(9, 9)
	}
	for i := 1; i < len(b) && i <= 5; i++ {
		nodes, _ := laid(&x)
		above := nodes[int(b[i])%len(nodes)]
		above.Kids = append(above.Kids, api.VNode{Key: stamp(i, 0), Tag: "p"})
	}
	var l []api.Patch
	asKey := func(n byte) api.Stamp {
		if n&7 == 0 {
			return x.Key
		}
		return stamp(int(n&7), 0)
	}
	for b = b[min(len(b), 6):]; len(b) >= 3; b = b[3:] {
		s := sample(1 + int(b[0])%9)
		s.Key = asKey(b[1])
		if s.Kind == api.PPut {
			s.Parent = asKey(b[2])
		}
		if s.Kind == api.PPut || s.Kind == api.PShift {
			s.After = api.Stamp{}
			if k := b[2] >> 3; k > 0 {
				s.After = stamp(int(k&7), 0)
			}
		}
		if s.Kind == api.PSet || s.Kind == api.PClear {
			s.Name = []string{"a", "b", "c", "d"}[b[2]&3]
		}
		l = append(l, s)
	}
	return x, l
}

func FuzzAnySteps(f *testing.F) {
	f.Add([]byte{0, 0, 1, 2, 0, 1, 0, 1, 0, 3, 1, 2, 7, 1, 0})
	f.Add([]byte{200, 0, 0, 0, 0, 0, 4, 1, 16, 0, 2, 0, 1, 2, 0, 2, 6, 0, 3, 6, 1})
	f.Fuzz(func(t *testing.T, b []byte) {
		if len(b) > 200 {
			return
		}
		x, l := readSteps(b)
		wantAsModel(t, x, l)
	})
}
