package vtree

import (
	"cmp"
	"iter"
	"math"
	"math/rand"
	"slices"
	"strconv"
	"strings"
	"testing"

	"topiary/api"
	"topiary/ident"
)

var (
	root  = api.Stamp{}
	trash = api.Stamp{Replica: 1}
)

func stamp(count, replica int) api.Stamp { return api.Stamp{Count: count, Replica: replica} }

// key tells the stamp of which that is the text.
func key(text string) api.Stamp {
	s, e := ident.Parse(text)
	if e != api.OK {
		panic(text)
	}
	return s
}

// node tells a node of that key and tag, with these kids.
func node(text, tag string, kids ...api.VNode) api.VNode {
	return api.VNode{Key: key(text), Tag: tag, Kids: kids}
}

// having tells n with that text, and with attributes of these names and values by turns.
func having(n api.VNode, text string, l ...string) api.VNode {
	n.Text = text
	for i := 0; i < len(l); i += 2 {
		n.Attrs = append(n.Attrs, api.Attr{Name: l[i], Value: l[i+1]})
	}
	return n
}

func written(s api.Stamp) string {
	word, e := ident.Text(s)
	if e != api.OK {
		return "{" + strconv.Itoa(s.Count) + " " + strconv.Itoa(s.Replica) + "}"
	}
	return word
}

func writtenAll(l []api.Stamp) string {
	var words []string
	for _, s := range l {
		words = append(words, written(s))
	}
	return strings.Join(words, " ")
}

// The model: the chapter's words in their plainest form, without the package's own walks.

// place is a node where it stands: how many are above it, and its parent's place in the order (-1: none).
type place struct {
	deep, above int
	n           api.VNode
}

// laid tells the nodes of t in order.
func laid(t api.VNode) []place {
	out := []place{{above: -1, n: t}}
	for _, kid := range t.Kids {
		at := len(out)
		for _, p := range laid(kid) {
			p.deep++
			if p.above < 0 {
				p.above = 0
			} else {
				p.above += at
			}
			out = append(out, p)
		}
	}
	return out
}

// The tests' own Same, which knows of no nil: of each node how deep it stands, and what its fields say.
func spelt(t api.VNode) string {
	var b strings.Builder
	for _, p := range laid(t) {
		b.WriteString(strings.Repeat("  ", p.deep) + written(p.n.Key) + " " + strconv.Quote(p.n.Tag) + " " + strconv.Quote(p.n.Text))
		for _, a := range p.n.Attrs {
			b.WriteString(" " + strconv.Quote(a.Name) + "=" + strconv.Quote(a.Value))
		}
		b.WriteString("\n")
	}
	return b.String()
}

func wantTree(t testing.TB, got, want api.VNode) {
	t.Helper()
	if spelt(got) != spelt(want) {
		t.Fatalf("got\n%swant\n%s", spelt(got), spelt(want))
	}
}

func wantSpelt(t testing.TB, got api.VNode, want ...string) {
	t.Helper()
	if text := strings.Join(want, "\n") + "\n"; spelt(got) != text {
		t.Errorf("got\n%swant\n%s", spelt(got), text)
	}
}

func wantZero(t testing.TB, got api.VNode) {
	t.Helper()
	if got.Key != root || got.Tag != "" || got.Text != "" || len(got.Attrs) != 0 || len(got.Kids) != 0 {
		t.Errorf("not zero: %.200s", spelt(got))
	}
}

func isName(s string) bool {
	const first, others = "abcdefghijklmnopqrstuvwxyz", "abcdefghijklmnopqrstuvwxyz0123456789-"
	return len(s) >= 1 && len(s) <= 32 && strings.Contains(first, s[:1]) && strings.Trim(s, others) == ""
}

func isRight(s api.Stamp) bool {
	return s.Count >= 1 && s.Count <= 1<<40 && s.Replica >= 0 && s.Replica <= 63
}

// plainCheck goes over all nodes, and of each one over all faults, in the order of the promise.
func plainCheck(t api.VNode) api.Errno {
	all := laid(t)
	if len(all) > 8192 {
		return api.ErrLong
	}
	type fault struct {
		is bool
		e  api.Errno
	}
	for i, p := range all {
		hasKey := func(o place) bool { return o.n.Key == p.n.Key }
		faults := []fault{
			{!isRight(p.n.Key) && (i > 0 || p.n.Key != root && p.n.Key != trash), api.ErrForm},
			{slices.ContainsFunc(all[:i], hasKey), api.ErrTwice},
			{!isName(p.n.Tag), api.ErrName},
			{len(p.n.Text) > 256, api.ErrLong},
			{len(p.n.Attrs) > 4096, api.ErrLong},
		}
		for k, a := range p.n.Attrs {
			faults = append(faults,
				fault{!isName(a.Name), api.ErrName},
				fault{len(a.Value) > 256, api.ErrLong},
				fault{k > 0 && strings.Compare(p.n.Attrs[max(k, 1)-1].Name, a.Name) >= 0, api.ErrForm})
		}
		for _, f := range faults {
			if f.is {
				return f.e
			}
		}
	}
	return api.OK
}

// wantAsked asks of any tree all that can be asked of it.
func wantAsked(t testing.TB, x api.VNode) {
	t.Helper()
	all := laid(x)
	was := spelt(x)
	if got, want := Check(x), plainCheck(x); got != want {
		t.Fatalf("Check: %d, want %d of\n%s", got, want, was)
	}
	deepest := slices.MaxFunc(all, func(a, b place) int { return cmp.Compare(a.deep, b.deep) }).deep
	if Count(x) != len(all) || Depth(x) != deepest+1 {
		t.Fatalf("Count %d, Depth %d of\n%s", Count(x), Depth(x), was)
	}
	keys := []api.Stamp{}
	for _, p := range all {
		keys = append(keys, p.n.Key)
	}
	if got := Keys(x); !slices.Equal(got, keys) {
		t.Fatalf("Keys: %v of\n%s", got, was)
	}
	for _, k := range append(keys, root, trash, stamp(77, 7), stamp(-1, 3)) {
		wantFound(t, x, all, k)
	}
	wantGone(t, Each(x), all)
	if !Same(x, Copy(x)) {
		t.Fatalf("the copy is not the same as\n%s", was)
	}
	wantTree(t, Copy(x), x)
	if spelt(x) != was {
		t.Fatalf("of\n%shas come\n%s", was, spelt(x))
	}
}

// wantFound asks for that key in x, of which all are the nodes in order.
func wantFound(t testing.TB, x api.VNode, all []place, k api.Stamp) {
	t.Helper()
	i := slices.IndexFunc(all, func(p place) bool { return p.n.Key == k })
	var n api.VNode
	var above api.Stamp
	if i >= 0 {
		n = all[i].n
	}
	if i > 0 {
		above = all[all[i].above].n.Key
	}
	got, ok := Find(x, k)
	if ok != (i >= 0) || spelt(got) != spelt(n) {
		t.Fatalf("Find(%v): %v\n%swant\n%s", k, ok, spelt(got), spelt(n))
	}
	if s, ok := Parent(x, k); s != above || ok != (i > 0) {
		t.Fatalf("Parent(%v): %v %v, want %v", k, s, ok, above)
	}
}

// wantGone goes over each, and wants just these nodes, as deep as they stand.
func wantGone(t testing.TB, each iter.Seq2[int, api.VNode], all []place) {
	t.Helper()
	i := 0
	for deep, n := range each {
		if i == len(all) {
			t.Fatalf("more than %d", i)
		}
		if deep != all[i].deep || spelt(n) != spelt(all[i].n) {
			t.Fatalf("%d: at %d, want %d:\n%swant\n%s", i, deep, all[i].deep, spelt(n), spelt(all[i].n))
		}
		i++
	}
	if i != len(all) {
		t.Fatalf("%d, want %d", i, len(all))
	}
}

// family is a right tree in which nodes have few and many kids, texts and attributes.
func family() api.VNode {
	return having(node("root", "root",
		having(node("3.0", "p",
			having(node("2.1", "b"), "bold", "id", "x"),
			node("4.0", "i", node("9.3", "u"))), "hey", "class", "a", "id", "y"),
		node("1.0", "ul", node("5.0", "li"), node("6.0", "li"), node("7.0", "li", having(node("8.0", "s"), "", "a", "", "a-b", "\x00\xff", "a0", "<")))), "all", "lang", "en")
}

func TestFamily(t *testing.T) {
	x := family()
	if e := Check(x); e != api.OK {
		t.Fatalf("%d", e)
	}
	wantAsked(t, x)
	if got := writtenAll(Keys(x)); got != "root 3.0 2.1 4.0 9.3 1.0 5.0 6.0 7.0 8.0" {
		t.Errorf("Keys: %s", got)
	}
	if Count(x) != 10 || Depth(x) != 4 {
		t.Errorf("Count %d, Depth %d", Count(x), Depth(x))
	}
}

// P15.1

func TestCheckOfRightTrees(t *testing.T) {
	long := strings.Repeat("x", api.MaxValue)
	for i, x := range []api.VNode{
		node("root", "root"),
		node("trash", "p"),
		node("1.0", "p"),
		node("1099511627776.63", strings.Repeat("a", api.MaxName)),
		node("5.0", "p", node("4.0", "p"), node("1099511627776.63", "p"), node("1.63", "p")),
		{Tag: "root", Attrs: []api.Attr{}, Kids: []api.VNode{}},
		having(node("root", "root", having(node("1.0", "p"), long, "a", long, "b", long)), long),
		having(node("root", "a-1"), "\x00\xff\n", "a", "", "a-", "", "a0", "", "aa", "", "b", "\xff", strings.Repeat("z", api.MaxName), ""),
	} {
		if e := Check(x); e != api.OK {
			t.Errorf("%d: %d", i, e)
		}
		wantAsked(t, x)
	}
}

func TestCheckKeys(t *testing.T) {
	wrong := []api.Stamp{stamp(0, 2), stamp(0, -1), stamp(-1, 0), stamp(-1, 1), stamp(1, -1), stamp(1, 64), stamp(1<<40+1, 0), stamp(math.MinInt, 0), stamp(math.MaxInt, math.MaxInt)}
	for _, k := range wrong {
		top := api.VNode{Key: k, Tag: "p"}
		for _, x := range []api.VNode{top, node("root", "root", top), node("root", "root", node("1.0", "p", node("2.0", "p"), top))} {
			if e := Check(x); e != api.ErrForm {
				t.Errorf("%v: %d", k, e)
			}
		}
	}
	// Names of nodes that are no right stamps: the topmost one's alone, whatever that is.
	for _, top := range []string{"root", "trash", "3.0"} {
		for _, kid := range []string{"root", "trash"} {
			if e := Check(node(top, "p", node("1.0", "p", node(kid, "p")))); e != api.ErrForm {
				t.Errorf("%s, %s: %d", top, kid, e)
			}
			if e := Check(node(top, "p", node(kid, "p"))); e != api.ErrForm {
				t.Errorf("%s, %s: %d", top, kid, e)
			}
		}
	}
}

func TestCheckTwice(t *testing.T) {
	for i, x := range []api.VNode{
		node("1.0", "p", node("1.0", "p")),
		node("1.0", "p", node("2.0", "p", node("1.0", "p"))),
		node("root", "root", node("1.0", "p"), node("1.0", "p")),
		node("root", "root", node("1.0", "p", node("2.0", "p")), node("2.0", "p")),
		node("root", "root", node("1.0", "p", node("2.0", "p")), node("3.0", "p", node("4.0", "p", node("2.0", "p")))),
	} {
		if e := Check(x); e != api.ErrTwice {
			t.Errorf("%d: %d", i, e)
		}
	}
}

func TestCheckNames(t *testing.T) {
	for _, name := range []string{"", "P", "1", "-", "-a", "0a", "aB", "a_b", "a b", "a\x00", "é", "aé", strings.Repeat("a", api.MaxName+1)} {
		for i, x := range []api.VNode{
			node("root", name),
			node("root", "root", node("1.0", "p"), node("2.0", name)),
			having(node("root", "root"), "", name, ""),
			node("root", "root", having(node("1.0", "p"), "", "a", "", name, "")),
		} {
			if e := Check(x); e != api.ErrName {
				t.Errorf("%q, %d: %d", name, i, e)
			}
		}
	}
}

// manyAttrs tells n attributes of rising names.
func manyAttrs(n int) []api.Attr {
	var out []api.Attr
	for i := range n {
		out = append(out, api.Attr{Name: "a" + strconv.Itoa(100000+i)})
	}
	return out
}

func TestCheckLong(t *testing.T) {
	long := strings.Repeat("x", api.MaxValue+1)
	for i, x := range []api.VNode{
		having(node("root", "root"), long),
		node("root", "root", node("1.0", "p"), having(node("2.0", "p"), long)),
		having(node("root", "root"), "", "a", long),
		node("root", "root", having(node("1.0", "p"), "", "a", "", "b", long)),
		{Tag: "root", Attrs: manyAttrs(api.MaxAttrs + 1)},
		node("root", "root", api.VNode{Key: stamp(1, 0), Tag: "p", Attrs: manyAttrs(api.MaxAttrs + 1)}),
	} {
		if e := Check(x); e != api.ErrLong {
			t.Errorf("%d: %d", i, e)
		}
	}
	if e := Check(api.VNode{Tag: "root", Attrs: manyAttrs(api.MaxAttrs)}); e != api.OK {
		t.Errorf("%d", e)
	}
}

func TestCheckOrderOfAttributes(t *testing.T) {
	for _, l := range [][]string{
		{"a", "", "a", ""}, {"b", "", "a", ""}, {"a", "", "b", "", "b", ""}, {"a", "", "c", "", "b", ""}, {"b", "", "c", "", "a", ""},
		// By bytes: a hyphen ahead of digits, these ahead of letters, the shorter one first.
		{"a0", "", "a-", ""}, {"aa", "", "a0", ""}, {"ab", "", "a", ""}, {"b", "", "aa", ""}, {"a9", "", "a10", ""},
	} {
		if e := Check(having(node("root", "root"), "", l...)); e != api.ErrForm {
			t.Errorf("%q: %d", l, e)
		}
		if e := Check(node("root", "root", having(node("1.0", "p"), "", l...))); e != api.ErrForm {
			t.Errorf("%q: %d", l, e)
		}
	}
	// Of another node the names begin anew.
	if e := Check(having(node("root", "root", having(node("1.0", "p"), "", "a", "")), "", "b", "")); e != api.OK {
		t.Errorf("%d", e)
	}
}

// Of all faults that one node may have the first one counts; each one is mended, then the next one does.
func TestCheckFirstOfOneNode(t *testing.T) {
	long := strings.Repeat("x", api.MaxValue+1)
	bad := api.VNode{Key: stamp(0, 2), Tag: "P", Text: long, Attrs: append([]api.Attr{{Name: "b"}, {Name: "A", Value: long}}, manyAttrs(api.MaxAttrs)...)}
	tell := func(want api.Errno) {
		t.Helper()
		if e := Check(node("root", "root", node("1.0", "p"), bad)); e != want {
			t.Errorf("%d, want %d", e, want)
		}
	}
	tell(api.ErrForm)
	bad.Key = stamp(1, 0)
	tell(api.ErrTwice)
	bad.Key = stamp(2, 0)
	tell(api.ErrName)
	bad.Tag = "p"
	tell(api.ErrLong)
	bad.Text = ""
	tell(api.ErrLong)
	bad.Attrs = bad.Attrs[:3]
	tell(api.ErrName)
	bad.Attrs[1].Name = "a"
	tell(api.ErrLong)
	bad.Attrs[1].Value = ""
	tell(api.ErrForm)
	bad.Attrs[1].Name = "c"
	// That one is not above c.
	tell(api.ErrForm)
	bad.Attrs[2].Name = "d"
	tell(api.OK)
}

// Attribute by attribute: the first one's last fault ahead of the second one's first one.
func TestCheckFirstOfAttributes(t *testing.T) {
	long := strings.Repeat("x", api.MaxValue+1)
	for i, x := range []struct {
		l    []string
		want api.Errno
	}{
		{[]string{"a", long, "A", ""}, api.ErrLong},
		{[]string{"A", "", "a", long}, api.ErrName},
		{[]string{"b", "", "a", "", "A", ""}, api.ErrForm},
		{[]string{"b", "", "a", "", "c", long}, api.ErrForm},
		{[]string{"b", "", "a", long}, api.ErrLong},
		{[]string{"b", "", "A", long}, api.ErrName},
		{[]string{"b", "", "", ""}, api.ErrName},
	} {
		if e := Check(having(node("root", "root"), "", x.l...)); e != x.want {
			t.Errorf("%d: %d, want %d", i, e, x.want)
		}
	}
}

// Node by node in the tree's order: all faults of one ahead of those of what is beneath it, and these ahead of its siblings'.
func TestCheckFirstOfNodes(t *testing.T) {
	unnamed, unformed := node("8.0", ""), api.VNode{Key: stamp(0, 5), Tag: "p"}
	long := having(node("9.0", "p"), strings.Repeat("x", api.MaxValue+1))
	for i, x := range []struct {
		t    api.VNode
		want api.Errno
	}{
		{node("root", "root", node("1.0", "p", unnamed), unformed), api.ErrName},
		{node("root", "root", node("1.0", "p", unformed), unnamed), api.ErrForm},
		{node("root", "root", long, unnamed, unformed), api.ErrLong},
		{node("root", "", unformed), api.ErrName},
		{having(node("root", "root", unnamed), "", "b", "", "a", ""), api.ErrForm},
		{having(node("root", "root", unnamed), "", "a", strings.Repeat("x", api.MaxValue+1)), api.ErrLong},
		{node("root", "root", node("1.0", "p", node("2.0", "p", node("3.0", "p", unnamed)), unformed), long), api.ErrName},
		{node("root", "root", unnamed, node("8.0", "p")), api.ErrName},
		{node("root", "root", node("8.0", "p"), unnamed), api.ErrTwice},
	} {
		if e := Check(x.t); e != x.want {
			t.Errorf("%d: %d, want %d", i, e, x.want)
		}
		wantAsked(t, x.t)
	}
}

// chain tells n nodes, each one beneath the one ahead; wide: all beneath the first one.
func chain(n int) api.VNode {
	t := api.VNode{Key: stamp(n, 0), Tag: "p"}
	for i := n - 1; i >= 1; i-- {
		t = api.VNode{Key: stamp(i, 0), Tag: "p", Kids: []api.VNode{t}}
	}
	return t
}

func wide(n int) api.VNode {
	t := api.VNode{Key: stamp(1, 0), Tag: "p"}
	for i := 2; i <= n; i++ {
		t.Kids = append(t.Kids, api.VNode{Key: stamp(i, 0), Tag: "p"})
	}
	return t
}

func TestCheckMaxNodes(t *testing.T) {
	for _, grow := range []func(int) api.VNode{chain, wide} {
		if e := Check(grow(api.MaxNodes)); e != api.OK {
			t.Errorf("%d", e)
		}
		if e := Check(grow(api.MaxNodes + 1)); e != api.ErrLong {
			t.Errorf("%d", e)
		}
		// Too many, ahead of all else that is wrong.
		x := grow(api.MaxNodes + 1)
		x.Key, x.Tag, x.Attrs = stamp(-1, 0), "P", []api.Attr{{Name: "b"}, {Name: "a"}}
		if e := Check(x); e != api.ErrLong {
			t.Errorf("%d", e)
		}
		x = grow(api.MaxNodes)
		x.Key = stamp(-1, 0)
		if e := Check(x); e != api.ErrForm {
			t.Errorf("%d", e)
		}
	}
	// All together, whatever the branch.
	x := node("root", "root", chain(api.MaxNodes/2), node("1.1", "p"))
	x.Kids[1].Kids = wide(api.MaxNodes / 2).Kids
	for i := range x.Kids[1].Kids {
		x.Kids[1].Kids[i].Key.Replica = 1
	}
	if n := Count(x); n != api.MaxNodes+1 || Check(x) != api.ErrLong {
		t.Errorf("%d: %d", n, Check(x))
	}
	x.Kids[1].Kids = x.Kids[1].Kids[1:]
	if e := Check(x); e != api.OK {
		t.Errorf("%d", e)
	}
}

// Lists that hold themselves, or are held many times, are more nodes than anybody could go through.
func TestCheckOfEndlessTrees(t *testing.T) {
	ring := make([]api.VNode, 2)
	for i := range ring {
		ring[i] = api.VNode{Key: stamp(i+1, 0), Tag: "p", Kids: ring}
	}
	if e := Check(api.VNode{Tag: "root", Kids: ring}); e != api.ErrLong {
		t.Errorf("%d", e)
	}
	var l []api.VNode
	for i := range 60 {
		l = []api.VNode{{Key: stamp(i+1, 0), Tag: "p", Kids: l}, {Key: stamp(i+1, 1), Tag: "p", Kids: l}}
	}
	if e := Check(api.VNode{Tag: "root", Kids: l}); e != api.ErrLong {
		t.Errorf("%d", e)
	}
}

// P15.2: Same, Copy

// turned are trees that differ from family in one field of one node.
func turned() []api.VNode {
	var out []api.VNode
	add := func(turn func(n *api.VNode)) {
		for i := range laid(family()) {
			x := family()
			turn(pointers(&x)[i])
			if spelt(x) != spelt(family()) {
				out = append(out, x)
			}
		}
	}
	add(func(n *api.VNode) { n.Key.Count += 100 })
	add(func(n *api.VNode) { n.Key.Replica-- })
	add(func(n *api.VNode) { n.Tag += "x" })
	add(func(n *api.VNode) { n.Tag = "" })
	add(func(n *api.VNode) { n.Text += "x" })
	add(func(n *api.VNode) { n.Text, n.Tag = n.Tag, n.Text })
	add(func(n *api.VNode) { n.Attrs = append(n.Attrs, api.Attr{}) })
	add(func(n *api.VNode) { n.Attrs = nil })
	add(func(n *api.VNode) { slices.Reverse(n.Attrs) })
	add(func(n *api.VNode) {
		for i := range n.Attrs {
			n.Attrs[i].Name += "x"
		}
	})
	add(func(n *api.VNode) {
		for i := range n.Attrs {
			n.Attrs[i].Name, n.Attrs[i].Value = n.Attrs[i].Value, n.Attrs[i].Name
		}
	})
	add(func(n *api.VNode) { n.Kids = append(n.Kids, api.VNode{}) })
	add(func(n *api.VNode) { n.Kids = nil })
	add(func(n *api.VNode) { slices.Reverse(n.Kids) })
	return out
}

// pointers tells the nodes as they lie in x, in order.
func pointers(x *api.VNode) []*api.VNode {
	var out []*api.VNode
	// The last one is the next in order.
	left := []*api.VNode{x}
	for len(left) > 0 {
		n := left[len(left)-1]
		left = left[:len(left)-1]
		out = append(out, n)
		for i := range n.Kids {
			left = append(left, &n.Kids[len(n.Kids)-1-i])
		}
	}
	return out
}

func TestSame(t *testing.T) {
	x := family()
	if !Same(x, family()) || !Same(api.VNode{}, api.VNode{}) {
		t.Error("not the same")
	}
	all := turned()
	if len(all) < 80 {
		t.Fatalf("few: %d", len(all))
	}
	for _, y := range all {
		if Same(x, y) || Same(y, x) {
			t.Errorf("the same as\n%s", spelt(y))
		}
		if !Same(y, y) {
			t.Errorf("not the same as itself:\n%s", spelt(y))
		}
	}
	// One node beneath another one, or beside it.
	if Same(node("root", "p", node("1.0", "p", node("2.0", "p"))), node("root", "p", node("1.0", "p"), node("2.0", "p"))) {
		t.Error("the same")
	}
}

func TestSameOfNoElements(t *testing.T) {
	none := api.VNode{Tag: "root"}
	empty := api.VNode{Tag: "root", Attrs: []api.Attr{}, Kids: []api.VNode{}}
	kid := api.VNode{Tag: "root", Kids: []api.VNode{none}}
	kidToo := api.VNode{Tag: "root", Attrs: make([]api.Attr, 0, 3), Kids: []api.VNode{empty}}
	if !Same(none, empty) || !Same(empty, none) || !Same(kid, kidToo) || !Same(kidToo, kid) {
		t.Error("not nil's like")
	}
}

func TestCopy(t *testing.T) {
	for _, x := range append(turned(), family(), api.VNode{}, api.VNode{Attrs: []api.Attr{}, Kids: []api.VNode{}}) {
		wantTree(t, Copy(x), x)
	}
}

// P15.3

func TestOfOneNode(t *testing.T) {
	for _, x := range []api.VNode{{}, having(node("5.0", "p"), "hey", "id", "x"), {Key: stamp(-7, 99), Tag: "\xff", Attrs: []api.Attr{{}}}} {
		wantAsked(t, x)
		if Count(x) != 1 || Depth(x) != 1 || !slices.Equal(Keys(x), []api.Stamp{x.Key}) {
			t.Errorf("%v", x)
		}
		if s, ok := Parent(x, x.Key); s != root || ok {
			t.Errorf("%v %v", s, ok)
		}
	}
}

// The greatest of the kids' depths, wherever that kid stands.
func TestDepth(t *testing.T) {
	deep := node("1.0", "p", node("2.0", "p", node("3.0", "p")))
	flat := node("4.0", "p", node("5.0", "p"), node("6.0", "p"), node("7.0", "p"), node("8.0", "p"))
	for _, x := range []api.VNode{node("root", "p", deep, flat), node("root", "p", flat, deep), node("root", "p", flat, deep, flat)} {
		if Depth(x) != 4 {
			t.Errorf("%d", Depth(x))
		}
	}
	if Depth(node("root", "p", flat, flat)) != 3 {
		t.Error("flat")
	}
}

func TestFindAndParent(t *testing.T) {
	x := family()
	for k, want := range map[string]string{"3.0": "root", "1.0": "root", "2.1": "3.0", "4.0": "3.0", "9.3": "4.0", "5.0": "1.0", "7.0": "1.0", "8.0": "7.0"} {
		if s, ok := Parent(x, key(k)); !ok || s != key(want) {
			t.Errorf("%s: %v %v, want %s", k, s, ok, want)
		}
	}
	n, ok := Find(x, key("3.0"))
	if !ok {
		t.Error("none")
	}
	wantSpelt(t, n,
		`3.0 "p" "hey" "class"="a" "id"="y"`,
		`  2.1 "b" "bold" "id"="x"`,
		`  4.0 "i" ""`,
		`    9.3 "u" ""`)
	for _, k := range []api.Stamp{trash, stamp(10, 0), stamp(3, 1), stamp(0, 3), stamp(-3, 0)} {
		n, ok := Find(x, k)
		if s, isKid := Parent(x, k); ok || isKid || s != root {
			t.Errorf("%v: %v %v %v", k, ok, isKid, s)
		}
		wantZero(t, n)
	}
	if s, ok := Parent(x, root); ok || s != root {
		t.Errorf("%v %v", s, ok)
	}
}

// Of a key that is there more than once the first node counts, though one behind it stand higher.
func TestFirstOfOneKey(t *testing.T) {
	x := node("root", "root",
		node("1.0", "p", node("2.0", "b", node("3.0", "i"))),
		node("2.0", "u", node("4.0", "s")),
		node("3.0", "u"))
	n, _ := Find(x, key("2.0"))
	wantSpelt(t, n, `2.0 "b" ""`, `  3.0 "i" ""`)
	for k, want := range map[string]string{"2.0": "1.0", "3.0": "2.0"} {
		if s, ok := Parent(x, key(k)); !ok || s != key(want) {
			t.Errorf("%s: %v %v", k, s, ok)
		}
	}
	// The topmost one has no parent, though another one with its key has.
	x = node("1.0", "p", node("2.0", "b", node("1.0", "i")))
	if s, ok := Parent(x, key("1.0")); ok || s != root {
		t.Errorf("%v %v", s, ok)
	}
	n, _ = Find(x, key("1.0"))
	wantTree(t, n, x)
	if got := writtenAll(Keys(x)); got != "1.0 2.0 1.0" {
		t.Errorf("%s", got)
	}
	wantAsked(t, x)
}

// A parent may be the zero stamp, wherever it stands.
func TestParentIsTheRoot(t *testing.T) {
	x := node("5.0", "p", node("root", "p", node("1.0", "p")), node("2.0", "p"))
	for k, want := range map[string]string{"1.0": "root", "root": "5.0", "2.0": "5.0"} {
		if s, ok := Parent(x, key(k)); !ok || s != key(want) {
			t.Errorf("%s: %v %v", k, s, ok)
		}
	}
}

func TestEachIsLeftAndGoneOverAgain(t *testing.T) {
	all := laid(family())
	each := Each(family())
	for stop := range len(all) + 1 {
		i := 0
		for deep, n := range each {
			if deep != all[i].deep || n.Key != all[i].n.Key {
				t.Fatalf("%d: %d %v", i, deep, n.Key)
			}
			i++
			if i == stop {
				break
			}
		}
		if want := max(stop, 1); stop > 0 && i != want {
			t.Errorf("%d, want %d", i, want)
		}
	}
	wantGone(t, each, all)
	// One within the other.
	for _, n := range each {
		wantGone(t, each, all)
		wantGone(t, Each(n), laid(n))
	}
}

// A yield that says no is not called again, nor is one left by a return from deep within.
func TestEachStopsAtOnce(t *testing.T) {
	calls := 0
	Each(family())(func(int, api.VNode) bool {
		calls++
		return calls < 5
	})
	if calls != 5 {
		t.Errorf("%d", calls)
	}
	deepest := func() api.Stamp {
		for deep, n := range Each(family()) {
			if deep == 3 {
				return n.Key
			}
		}
		return root
	}
	if s := deepest(); s != key("9.3") {
		t.Errorf("%v", s)
	}
}

func TestEachIsAsTheTreeWas(t *testing.T) {
	x := roomy(family())
	each := Each(x)
	spoil(x)
	wantGone(t, each, laid(family()))
	// Nor does what is done to the nodes that it yields change what is to come.
	i := 0
	for _, n := range each {
		spoil(n)
		i++
	}
	if i != Count(family()) {
		t.Errorf("%d", i)
	}
	wantGone(t, each, laid(family()))
}

func TestEachIsNeverNil(t *testing.T) {
	if Each(api.VNode{}) == nil || Each(family()) == nil {
		t.Error("nil")
	}
	wantGone(t, Each(api.VNode{}), []place{{}})
}

// The rules that hold everywhere

var (
	attrBehind = api.Attr{Name: "behind", Value: "behind"}
	nodeBehind = api.VNode{Key: stamp(55, 5), Tag: "behind"}
)

// roomy tells x in new memory, with something in the room behind each list's end.
func roomy(x api.VNode) api.VNode {
	attrs := append(append([]api.Attr{}, x.Attrs...), attrBehind, attrBehind)
	kids := []api.VNode{}
	for _, kid := range x.Kids {
		kids = append(kids, roomy(kid))
	}
	kids = append(kids, nodeBehind, nodeBehind)
	x.Attrs, x.Kids = attrs[:len(attrs)-2], kids[:len(kids)-2]
	return x
}

func wantBehind(t testing.TB, x api.VNode) {
	t.Helper()
	for _, p := range laid(x) {
		attrs, kids := p.n.Attrs[:len(p.n.Attrs)+2], p.n.Kids[:len(p.n.Kids)+2]
		for i := range 2 {
			if attrs[len(p.n.Attrs)+i] != attrBehind || spelt(kids[len(p.n.Kids)+i]) != spelt(nodeBehind) {
				t.Errorf("behind the ends of %v: %v, %v", p.n.Key, attrs, kids)
			}
		}
	}
}

// lists tells all lists of these trees, with the room behind their ends.
func lists(l ...api.VNode) (attrs [][]api.Attr, kids [][]api.VNode) {
	for _, x := range l {
		for _, p := range laid(x) {
			attrs = append(attrs, p.n.Attrs[:cap(p.n.Attrs)])
			kids = append(kids, p.n.Kids[:cap(p.n.Kids)])
		}
	}
	return attrs, kids
}

// spoil turns all that lies in x's lists.
func spoil(x api.VNode) {
	attrs, kids := lists(x)
	for _, l := range attrs {
		for i := range l {
			l[i] = api.Attr{Name: "spoilt", Value: "spoilt"}
		}
	}
	for _, l := range kids {
		for i := range l {
			l[i] = api.VNode{Key: stamp(66, 6), Tag: "spoilt"}
		}
	}
}

// wantApart wants that no two lists of these trees share memory. It spoils them: each list is marked by its number, and must still have that when all others are.
func wantApart(t testing.TB, l ...api.VNode) {
	t.Helper()
	attrs, kids := lists(l...)
	for i := range attrs {
		for k := range attrs[i] {
			attrs[i][k].Name = strconv.Itoa(i)
		}
		for k := range kids[i] {
			kids[i][k].Tag = strconv.Itoa(i)
		}
	}
	for i := range attrs {
		for _, a := range attrs[i] {
			if a.Name != strconv.Itoa(i) {
				t.Fatalf("attributes shared by the lists %d and %s", i, a.Name)
			}
		}
		for _, n := range kids[i] {
			if n.Tag != strconv.Itoa(i) {
				t.Fatalf("kids shared by the lists %d and %s", i, n.Tag)
			}
		}
	}
}

func TestAnswersAreNewMemory(t *testing.T) {
	x := roomy(family())
	all := []api.VNode{x, Copy(x), Copy(x)}
	for _, k := range Keys(x) {
		for range 2 {
			n, _ := Find(x, k)
			all = append(all, n)
		}
	}
	each := Each(x)
	for range 2 {
		for _, n := range each {
			all = append(all, n)
		}
	}
	wantApart(t, all...)
	wantGone(t, each, laid(family()))
	x = family()
	keys := Keys(x)
	keys[0] = stamp(66, 6)
	if !Same(x, family()) || Keys(x)[0] != root {
		t.Error("Keys are not their own")
	}
}

func TestNothingHandedInIsChanged(t *testing.T) {
	for _, x := range append(turned(), family()) {
		was := spelt(x)
		x = roomy(x)
		wantAsked(t, x)
		Same(x, family())
		for _, n := range Each(x) {
			spoil(n)
		}
		n, _ := Find(x, root)
		spoil(n)
		spoil(Copy(x))
		if spelt(x) != was {
			t.Errorf("of\n%scomes\n%s", was, spelt(x))
		}
		wantBehind(t, x)
	}
}

// What follows

// grown tells a right tree of n nodes.
func grown(p *rand.Rand, n int) api.VNode {
	t := api.VNode{Tag: "root"}
	for _, i := range p.Perm(n - 1) {
		all := pointers(&t)
		under := all[p.Intn(len(all))]
		kid := api.VNode{Key: stamp(1+i/3, i%3), Tag: []string{"p", "b"}[p.Intn(2)], Text: strings.Repeat("t", p.Intn(3))}
		for _, name := range []string{"a", "a-b", "b"} {
			if p.Intn(3) == 0 {
				kid.Attrs = append(kid.Attrs, api.Attr{Name: name, Value: strconv.Itoa(p.Intn(3))})
			}
		}
		under.Kids = slices.Insert(under.Kids, p.Intn(len(under.Kids)+1), kid)
	}
	return t
}

// P15.5
func TestARightTreeFindsEachWhereItStands(t *testing.T) {
	for seed := range int64(200) {
		p := rand.New(rand.NewSource(seed))
		x := grown(p, 1+p.Intn(40))
		if e := Check(x); e != api.OK {
			t.Fatalf("seed %d: %d", seed, e)
		}
		if len(Keys(x)) != Count(x) {
			t.Fatalf("seed %d: %d keys", seed, len(Keys(x)))
		}
		var above []api.Stamp
		for deep, n := range Each(x) {
			found, ok := Find(x, n.Key)
			if !ok || !Same(found, n) {
				t.Fatalf("seed %d: Find(%v): %v", seed, n.Key, ok)
			}
			above = append(above[:deep], n.Key)
			s, ok := Parent(x, n.Key)
			if ok != (deep > 0) || ok && s != above[deep-1] {
				t.Fatalf("seed %d: Parent(%v): %v %v", seed, n.Key, s, ok)
			}
		}
	}
}

// faulty turns something of x, so that it may be right no more.
func faulty(p *rand.Rand, x *api.VNode) {
	all := pointers(x)
	n := all[p.Intn(len(all))]
	switch p.Intn(10) {
	case 0:
		n.Key = []api.Stamp{root, trash, stamp(0, 2), stamp(1, 64)}[p.Intn(4)]
	case 1:
		n.Key = all[p.Intn(len(all))].Key
	case 2:
		n.Tag = []string{"", "P", "a-1"}[p.Intn(3)]
	case 3:
		n.Text = strings.Repeat("x", 255+p.Intn(3))
	case 4, 5:
		n.Attrs = append(n.Attrs, api.Attr{Name: []string{"", "A", "a", "c"}[p.Intn(4)], Value: strings.Repeat("x", 255+p.Intn(3))})
	case 6:
		slices.Reverse(n.Attrs)
	case 7:
		n.Kids = append(n.Kids, Copy(*n))
	case 8:
		n.Attrs = []api.Attr{}
	case 9:
		slices.Reverse(n.Kids)
	}
}

func TestManyTreesAreAsTheModel(t *testing.T) {
	counts := map[api.Errno]int{}
	for seed := range int64(1500) {
		p := rand.New(rand.NewSource(seed))
		x := grown(p, 1+p.Intn(15))
		for range p.Intn(5) {
			faulty(p, &x)
		}
		wantAsked(t, x)
		counts[Check(x)]++
		y := Copy(x)
		faulty(p, &y)
		if Same(x, y) != (spelt(x) == spelt(y)) {
			t.Fatalf("seed %d: %v:\n%s%s", seed, Same(x, y), spelt(x), spelt(y))
		}
	}
	for _, e := range []api.Errno{api.OK, api.ErrForm, api.ErrTwice, api.ErrName, api.ErrLong} {
		if counts[e] < 20 {
			t.Errorf("few of %d: %d", e, counts[e])
		}
	}
}

// Many

func TestDeepAndWideTrees(t *testing.T) {
	const many = 1 << 16
	last := stamp(many, 0)
	for i, x := range []api.VNode{chain(many), wide(many)} {
		depth, parent := many, stamp(many-1, 0)
		if i == 1 {
			depth, parent = 2, stamp(1, 0)
		}
		if Count(x) != many || Depth(x) != depth || Check(x) != api.ErrLong {
			t.Errorf("Count %d, Depth %d, Check %d", Count(x), Depth(x), Check(x))
		}
		keys := Keys(x)
		if len(keys) != many || !slices.IsSortedFunc(keys, ident.Compare) || keys[many-1] != last {
			t.Errorf("%d keys", len(keys))
		}
		if n, ok := Find(x, last); !ok || n.Key != last {
			t.Errorf("Find: %v", ok)
		}
		if s, ok := Parent(x, last); !ok || s != parent {
			t.Errorf("Parent: %v %v", s, ok)
		}
		y := Copy(x)
		if !Same(x, y) {
			t.Error("not the same")
		}
		pointers(&y)[many-1].Text = "x"
		if Same(x, y) {
			t.Error("the same")
		}
		left := 3
		for deep := range Each(x) {
			left--
			if left == 0 {
				if deep != min(depth-1, 2) {
					t.Errorf("%d", deep)
				}
				break
			}
		}
	}
}

// Of any bytes: each three of them are a node, put beneath one of those ahead.
func FuzzAnyTree(f *testing.F) {
	f.Add([]byte{0, 0x10, 1, 0, 0x20, 2, 1, 0x30, 3})
	f.Add([]byte{0, 0x10, 0x81, 1, 0x10, 0x42, 1, 0x00, 0xff})
	f.Add([]byte{7, 0x01, 0x0f, 3, 0xf0, 0x33, 2, 0x12, 0x18, 9, 0x22, 0x24})
	f.Fuzz(func(t *testing.T, b []byte) {
		if len(b) > 90 {
			return
		}
		x := api.VNode{Tag: "root"}
		for ; len(b) >= 3; b = b[3:] {
			all := pointers(&x)
			under := all[int(b[0])%len(all)]
			kid := api.VNode{Key: stamp(int(b[1]>>4), int(b[1]&15)), Tag: []string{"p", "b", "P", ""}[b[2]&3], Text: strings.Repeat("t", int(b[0]>>4)*20)}
			for i := range b[2] >> 5 {
				kid.Attrs = append(kid.Attrs, api.Attr{Name: []string{"a", "b", "c", "-"}[(b[2]>>2+i)&3], Value: strings.Repeat("v", int(b[0])*2)})
			}
			under.Kids = append(under.Kids, kid)
		}
		wantAsked(t, x)
	})
}
