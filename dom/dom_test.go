package dom

import (
	"slices"
	"strconv"
	"strings"
	"testing"

	"topiary/api"
	"topiary/ident"
	"topiary/patch"
	"topiary/vtree"
)

var (
	root  = api.Stamp{}
	trash = api.Stamp{Replica: 1}
)

func stamp(count, replica int) api.Stamp { return api.Stamp{Count: count, Replica: replica} }

// key tells the stamp of which that is the text.
func key(text string) api.Stamp {
	s, e := ident.Parse(text)
	if e != api.OK {
		panic(text)
	}
	return s
}

func keyText(s api.Stamp) string {
	switch s {
	case root:
		return "root"
	case trash:
		return "trash"
	}
	return strconv.Itoa(s.Count) + "." + strconv.Itoa(s.Replica)
}

// tree tells the tree of which that is the shape: each key with its kids in brackets behind it. All are p.
func tree(shape string) api.VNode {
	n, rest := readNode(shape)
	if rest != "" {
		panic(shape)
	}
	return n
}

func readNode(s string) (api.VNode, string) {
	end := strings.IndexAny(s+" ", "() ")
	n := api.VNode{Key: key(s[:end]), Tag: "p"}
	s = s[end:]
	if !strings.HasPrefix(s, "(") {
		return n, s
	}
	for s[0] != ')' {
		var kid api.VNode
		kid, s = readNode(s[1:])
		n.Kids = append(n.Kids, kid)
	}
	return n, s[1:]
}

// having tells n with that text, and with attributes of these names and values by turns.
func having(n api.VNode, text string, l ...string) api.VNode {
	n.Text = text
	for i := 0; i < len(l); i += 2 {
		n.Attrs = append(n.Attrs, api.Attr{Name: l[i], Value: l[i+1]})
	}
	return n
}

// family tells root(1.0(3.0(5.0) 4.0) 2.0), in which no two nodes have the same fields.
func family() api.VNode {
	t := tree("root(1.0(3.0(5.0) 4.0) 2.0)")
	t.Tag = "root"
	t.Kids[0] = having(t.Kids[0], "", "b", "1", "d", "2")
	t.Kids[0].Kids[0].Text = "three"
	t.Kids[0].Kids[1].Tag = "b"
	t.Kids[1] = having(t.Kids[1], "two", "id", "x")
	t.Kids[1].Tag = "li"
	return t
}

func wide(n int) api.VNode {
	t := api.VNode{Tag: "root"}
	for i := 1; i < n; i++ {
		t.Kids = append(t.Kids, api.VNode{Key: stamp(i, 1), Tag: "p"})
	}
	return t
}

func chain(n int) api.VNode {
	t := api.VNode{Key: stamp(n-1, 1), Tag: "p"}
	for i := n - 2; i >= 0; i-- {
		t = api.VNode{Key: stamp(i, 1), Tag: "p", Kids: []api.VNode{t}}
	}
	t.Key, t.Tag = root, "root"
	return t
}

// spelt tells all fields of all nodes, the tests' own way.
func spelt(t api.VNode) string {
	var b strings.Builder
	var down func(n *api.VNode, deep int)
	down = func(n *api.VNode, deep int) {
		b.WriteString(strings.Repeat("  ", min(deep, 40)) + keyText(n.Key) + " " + n.Tag + " " + strconv.Quote(n.Text))
		for _, a := range n.Attrs {
			b.WriteString(" " + a.Name + "=" + strconv.Quote(a.Value))
		}
		b.WriteString("\n")
		for i := range n.Kids {
			down(&n.Kids[i], deep+1)
		}
	}
	down(&t, 0)
	return b.String()
}

// laid tells the nodes of t as they lie there, in order.
func laid(t *api.VNode) []*api.VNode {
	out := []*api.VNode{}
	var down func(n *api.VNode)
	down = func(n *api.VNode) {
		out = append(out, n)
		for i := range n.Kids {
			down(&n.Kids[i])
		}
	}
	down(t)
	return out
}

// plainLinks tells the links of a tree's nodes, found in the tree itself.
func plainLinks(t *api.VNode) []api.Link {
	var out []api.Link
	var down func(n *api.VNode, l api.Link)
	down = func(n *api.VNode, l api.Link) {
		l.Key = n.Key
		last := len(n.Kids) - 1
		if last >= 0 {
			l.First, l.Last = n.Kids[0].Key, n.Kids[last].Key
		}
		out = append(out, l)
		for i := range n.Kids {
			kid := api.Link{Parent: n.Key}
			if i > 0 {
				kid.Prev = n.Kids[i-1].Key
			}
			if i < last {
				kid.Next = n.Kids[i+1].Key
			}
			down(&n.Kids[i], kid)
		}
	}
	down(t, api.Link{Top: true})
	return out
}

func mustLoad(t testing.TB, x api.VNode) *Dom {
	t.Helper()
	d, e := Load(x)
	if e != api.OK || d == nil {
		t.Fatalf("Load: %v %d of\n%s", d, e, spelt(x))
	}
	return d
}

// wantOwn asks whether n tells of itself what x says, kids aside.
func wantOwn(t testing.TB, n *Node, x *api.VNode) {
	t.Helper()
	if n.Key() != x.Key || n.Tag() != x.Tag || n.Text() != x.Text || !slices.Equal(n.Attrs(), x.Attrs) {
		t.Fatalf("%v %q %q %v, want %v %q %q %v", n.Key(), n.Tag(), n.Text(), n.Attrs(), x.Key, x.Tag, x.Text, x.Attrs)
	}
	for _, a := range x.Attrs {
		if v, ok := n.Attr(a.Name); v != a.Value || !ok {
			t.Fatalf("%v: %s is %q %v, want %q", x.Key, a.Name, v, ok, a.Value)
		}
	}
	for _, name := range []string{"", "a", "b", "c", "zz", "A"} {
		isThere := slices.ContainsFunc(x.Attrs, func(a api.Attr) bool { return a.Name == name })
		if v, ok := n.Attr(name); ok != isThere || !ok && v != "" {
			t.Fatalf("%v: %q is %q %v", x.Key, name, v, ok)
		}
	}
}

// wantNode asks whether n is x with all beneath it, there and back: P19.3 and P19.5. It tells how many nodes that are.
func wantNode(t testing.TB, d *Dom, n *Node, x *api.VNode) int {
	t.Helper()
	wantOwn(t, n, x)
	if d.Find(x.Key) != n {
		t.Fatalf("Find of %v tells another one", x.Key)
	}
	all := 1
	kid, ahead := n.First(), (*Node)(nil)
	for i := range x.Kids {
		if kid == nil || kid.Parent() != n || kid.Prev() != ahead || ahead.Next() != kid && ahead != nil {
			t.Fatalf("the kid %d of %v", i, x.Key)
		}
		all += wantNode(t, d, kid, &x.Kids[i])
		kid, ahead = kid.Next(), kid
	}
	if kid != nil || n.Last() != ahead {
		t.Fatalf("the last kid of %v", x.Key)
	}
	return all
}

// wantDom asks whether d has the tree x, whichever way it is asked.
func wantDom(t testing.TB, d *Dom, x api.VNode) {
	t.Helper()
	if got := d.Read(); !vtree.Same(got, x) {
		t.Fatalf("got\n%swant\n%s", spelt(got), spelt(x))
	}
	if got, want := d.Links(), plainLinks(&x); !slices.Equal(got, want) {
		t.Fatalf("%v, want %v", got, want)
	}
	top := d.Top()
	if top == nil || top.Parent() != nil || top.Prev() != nil || top.Next() != nil {
		t.Fatal("the topmost node points to somebody")
	}
	if all := wantNode(t, d, top, &x); d.Len() != all {
		t.Fatalf("Len %d, want %d", d.Len(), all)
	}
	// P19.6: just those that are there.
	if len(d.index) != d.Len() {
		t.Fatalf("the index finds %d nodes of %d", len(d.index), d.Len())
	}
}

// wantLone asks whether n points to nobody, and tells of itself what x says.
func wantLone(t testing.TB, n *Node, x api.VNode) {
	t.Helper()
	wantOwn(t, n, &x)
	if n.Parent() != nil || n.First() != nil || n.Last() != nil || n.Prev() != nil || n.Next() != nil {
		t.Fatalf("%v points to somebody", x.Key)
	}
}

func steps(t testing.TB, texts string) []api.Patch {
	t.Helper()
	l, e := patch.Parse(strings.ReplaceAll(texts, ", ", "\n") + "\n")
	if e != api.OK {
		t.Fatalf("%q: %d", texts, e)
	}
	return l
}

func lines(l []api.Patch) string {
	out := ""
	for _, p := range l {
		out += strconv.Itoa(p.Kind) + " " + keyText(p.Key) + " " + keyText(p.Parent) + " " + keyText(p.After) + " " + p.Name + " " + strconv.Quote(p.Value) + "\n"
	}
	return out
}

// The example

func TestExample(t *testing.T) {
	d := mustLoad(t, tree("root(1.0 2.0)"))
	one, two := d.Find(key("1.0")), d.Find(key("2.0"))
	if n, e := d.Apply(steps(t, "shift 1.0 2.0")); n != 1 || e != api.OK {
		t.Fatalf("%d %d", n, e)
	}
	if d.Top().First() != two || two.Next() != one || d.Find(key("1.0")) != one {
		t.Error("other nodes")
	}
	if n, e := d.Apply(steps(t, "take 1.0")); n != 1 || e != api.ErrState {
		t.Errorf("%d %d", n, e)
	}
	wantDom(t, d, tree("root(2.0 1.0)"))
}

// P19.1: Load, Read, Links, Len, Top

func TestLoad(t *testing.T) {
	full := api.VNode{Key: trash, Tag: strings.Repeat("a", 32), Text: strings.Repeat("\x00", 256)}
	for i := range 4096 {
		full.Attrs = append(full.Attrs, api.Attr{Name: "a" + strconv.Itoa(10000+i), Value: full.Text})
	}
	for _, x := range []api.VNode{
		tree("root"), tree("trash"), tree("7.63"),
		tree("root(1.0)"), tree("trash(1.0 2.0)"), tree("root(2.0(1.0) 1.1(3.0 2.5) 9.0)"),
		tree("1099511627776.63(1.0(2.0(3.0)))"),
		family(), full, wide(8192), chain(8192),
	} {
		wantDom(t, mustLoad(t, x), x)
	}
}

// wrongTrees tells trees that vtree.Check refuses, at the topmost node or deep within.
func wrongTrees() map[string]api.VNode {
	long := strings.Repeat("x", 257)
	top := tree("root")
	noTag := tree("root(1.0(2.0))")
	noTag.Kids[0].Kids[0].Tag = ""
	many := tree("root(1.0)")
	for i := range 4097 {
		many.Kids[0].Attrs = append(many.Kids[0].Attrs, api.Attr{Name: "a" + strconv.Itoa(10000+i)})
	}
	loop := api.VNode{Tag: "root", Kids: make([]api.VNode, 1)}
	loop.Kids[0] = api.VNode{Key: stamp(1, 0), Tag: "p", Kids: loop.Kids}
	return map[string]api.VNode{
		"nothing at all":    {},
		"no tag":            noTag,
		"key":               {Key: stamp(0, 2), Tag: "p"},
		"a kid's key":       tree("root(1.0(trash))"),
		"the root as a kid": tree("trash(root)"),
		"twice":             tree("root(1.0(2.0) 2.0)"),
		"the topmost twice": tree("1.0(1.0)"),
		"text":              having(top, long),
		"attribute's name":  having(top, "", "A", ""),
		"attribute's value": having(top, "", "a", long),
		"attributes fall":   having(top, "", "b", "", "a", ""),
		"attribute twice":   having(top, "", "a", "", "a", ""),
		"attributes":        many,
		"nodes":             wide(8193),
		"deep":              chain(8193),
		"beneath itself":    loop,
	}
}

func TestLoadRefuses(t *testing.T) {
	for name, x := range wrongTrees() {
		want := vtree.Check(x)
		if d, e := Load(x); d != nil || e != want || e == api.OK {
			t.Errorf("%s: %v %d, want %d", name, d, e, want)
		}
	}
}

// kidsOf tells all lists of trees of just these keys, in this order.
func kidsOf(keys []api.Stamp) [][]api.VNode {
	if len(keys) == 0 {
		return [][]api.VNode{nil}
	}
	var out [][]api.VNode
	for n := range len(keys) {
		for _, beneath := range kidsOf(keys[1 : n+1]) {
			for _, behind := range kidsOf(keys[n+1:]) {
				out = append(out, append([]api.VNode{{Key: keys[0], Tag: "p", Kids: beneath}}, behind...))
			}
		}
	}
	return out
}

// small tells all shapes of trees of n nodes.
func small(n int) []api.VNode {
	var keys []api.Stamp
	for i := 1; i < n; i++ {
		keys = append(keys, stamp(i, i%2))
	}
	var out []api.VNode
	for _, kids := range kidsOf(keys) {
		out = append(out, api.VNode{Tag: "root", Kids: kids})
	}
	return out
}

func TestAllSmallTrees(t *testing.T) {
	for n := 1; n <= 7; n++ {
		for _, x := range small(n) {
			d := mustLoad(t, x)
			wantDom(t, d, x)
			wantDom(t, d.Clone(), x)
		}
	}
}

// P19.3: Find, and what a node tells

func TestFind(t *testing.T) {
	d := mustLoad(t, family())
	for _, s := range []api.Stamp{trash, key("6.0"), key("1.1"), {Count: -1}, {Replica: 2}, {Count: 1, Replica: -1}} {
		if n := d.Find(s); n != nil {
			t.Errorf("%v: %v", s, n)
		}
	}
	if n := d.Find(root); n == nil || n != d.Top() {
		t.Error("the root")
	}
	// The zero stamp is the root's key alone.
	d = mustLoad(t, tree("trash(1.0)"))
	if d.Find(root) != nil || d.Find(trash) != d.Top() || d.Find(key("1.0")) != d.Top().First() {
		t.Error("a tree without the root")
	}
}

func TestAttributes(t *testing.T) {
	n := mustLoad(t, having(tree("root"), "", "a", "1", "aa", "", "b", "\xff")).Top()
	for _, x := range []struct {
		name, value string
		ok          bool
	}{{"a", "1", true}, {"aa", "", true}, {"b", "\xff", true}, {"", "", false}, {"ab", "", false}, {"c", "", false}, {"A", "", false}} {
		if v, ok := n.Attr(x.name); v != x.value || ok != x.ok {
			t.Errorf("%q: %q %v", x.name, v, ok)
		}
	}
}

// P19.4: Clone, nil doms, nil nodes

func TestClone(t *testing.T) {
	d := mustLoad(t, family())
	c := d.Clone()
	wantDom(t, c, family())
	for _, s := range vtree.Keys(family()) {
		if c.Find(s) == d.Find(s) {
			t.Errorf("%v is one node of both", s)
		}
	}
	change := "set 1.0 b \"7\", set 2.0 id \"y\", clear 1.0 d, text 3.0 \"\", tag root q, take 3.0, put 3.0 2.0 -, make 9.0 p, put 9.0 root -, take 4.0, drop 4.0"
	if _, e := c.Apply(steps(t, change)); e != api.OK {
		t.Fatal(e)
	}
	wantDom(t, d, family())
	changed := c.Read()
	if _, e := d.Apply(steps(t, "set 1.0 b \"0\", shift 2.0 -, take 5.0, drop 5.0, text 2.0 \"z\"")); e != api.OK {
		t.Fatal(e)
	}
	wantDom(t, c, changed)
}

func TestNil(t *testing.T) {
	var d *Dom
	if x := d.Read(); spelt(x) != spelt(api.VNode{}) || x.Attrs != nil || x.Kids != nil {
		t.Errorf("Read %v", x)
	}
	if d.Top() != nil || d.Find(root) != nil || d.Find(key("1.0")) != nil || d.Len() != 0 || len(d.Links()) != 0 || d.Clone() != nil {
		t.Error("a nil dom has something")
	}
	wrong := []api.Patch{{Kind: 10}}
	for _, l := range [][]api.Patch{nil, {}, steps(t, "text root \"\""), wrong, append(steps(t, "text root \"\""), wrong...)} {
		if n, e := d.Apply(l); n != 0 || e != api.ErrState {
			t.Errorf("%s: %d %d", lines(l), n, e)
		}
	}
	var n *Node
	wantLone(t, n, api.VNode{})
	if v, ok := n.Attr(""); v != "" || ok || n.Attrs() != nil {
		t.Error("a nil node has an attribute")
	}
}
