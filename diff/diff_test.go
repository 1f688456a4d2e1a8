package diff

import (
	"math"
	"slices"
	"strconv"
	"strings"
	"testing"

	"topiary/api"
	"topiary/ident"
	"topiary/patch"
	"topiary/vtree"
)

var (
	root  = api.Stamp{}
	trash = api.Stamp{Replica: 1}
)

func stamp(count, replica int) api.Stamp { return api.Stamp{Count: count, Replica: replica} }

// key tells the stamp of which that is the text.
func key(text string) api.Stamp {
	s, e := ident.Parse(text)
	if e != api.OK {
		panic(text)
	}
	return s
}

// tree tells the tree of which that is the shape: each key with its kids in brackets behind it. All are p.
func tree(shape string) api.VNode {
	n, rest := readNode(shape)
	if rest != "" {
		panic(shape)
	}
	return n
}

func readNode(s string) (api.VNode, string) {
	end := strings.IndexAny(s+" ", "() ")
	n := api.VNode{Key: key(s[:end]), Tag: "p"}
	s = s[end:]
	if !strings.HasPrefix(s, "(") {
		return n, s
	}
	for s[0] != ')' {
		var kid api.VNode
		kid, s = readNode(s[1:])
		n.Kids = append(n.Kids, kid)
	}
	return n, s[1:]
}

// having tells n with that text, and with attributes of these names and values by turns.
func having(n api.VNode, text string, l ...string) api.VNode {
	n.Text = text
	for i := 0; i < len(l); i += 2 {
		n.Attrs = append(n.Attrs, api.Attr{Name: l[i], Value: l[i+1]})
	}
	return n
}

// spelt tells all fields of all nodes, the tests' own way.
func spelt(t api.VNode) string {
	var b strings.Builder
	var down func(n *api.VNode, deep int)
	down = func(n *api.VNode, deep int) {
		b.WriteString(strings.Repeat("  ", min(deep, 40)) + strconv.Itoa(n.Key.Count) + "." + strconv.Itoa(n.Key.Replica) + " " + strconv.Quote(n.Tag) + " " + strconv.Quote(n.Text))
		for _, a := range n.Attrs {
			b.WriteString(" " + strconv.Quote(a.Name) + "=" + strconv.Quote(a.Value))
		}
		b.WriteString("\n")
		for i := range n.Kids {
			down(&n.Kids[i], deep+1)
		}
	}
	down(&t, 0)
	return b.String()
}

// lines tells the steps' texts, with a comma and a blank between.
func lines(l []api.Patch) string {
	s, e := patch.Print(l)
	if e != api.OK {
		return "error " + strconv.Itoa(int(e))
	}
	return strings.ReplaceAll(strings.TrimSuffix(s, "\n"), "\n", ", ")
}

// The model: the chapter's words, each of them asked anew of both trees.

// stood is a node where it lies, the one above it (nil: it is the topmost one), and its place among that one's kids.
type stood struct {
	n, above *api.VNode
	at       int
}

// laid tells the nodes of t in order.
func laid(t *api.VNode) []stood {
	out := []stood{{n: t}}
	for i := range t.Kids {
		kids := laid(&t.Kids[i])
		kids[0].above, kids[0].at = t, i
		out = append(out, kids...)
	}
	return out
}

// in tells the node of that key among all; its n is nil, if there is none.
func in(all []stood, k api.Stamp) stood {
	for _, s := range all {
		if s.n.Key == k {
			return s
		}
	}
	return stood{}
}

// two is two trees, as the nodes of each in order.
type two struct {
	a, b []stood
}

func twoOf(a, b *api.VNode) two { return two{laid(a), laid(b)} }

func (x two) isGone(k api.Stamp) bool { return in(x.a, k).n != nil && in(x.b, k).n == nil }

func (x two) isNew(k api.Stamp) bool { return in(x.a, k).n == nil && in(x.b, k).n != nil }

func (x two) isStrange(k api.Stamp) bool {
	was, is := in(x.a, k), in(x.b, k)
	return was.n != nil && is.n != nil && is.above != nil && was.above.Key != is.above.Key
}

func (x two) hasStayed(k api.Stamp) bool {
	return in(x.b, k).n != nil && !x.isNew(k) && !x.isStrange(k)
}

// longest tells the first one of the longest rising parts, as places.
func longest(l []int) []int {
	from := make([][]int, len(l)+1)
	isBetter := func(a, b []int) bool {
		return len(a) > len(b) || len(a) == len(b) && slices.Compare(a, b) < 0
	}
	var best []int
	for at := len(l) - 1; at >= 0; at-- {
		var rest []int
		for next := at + 1; next < len(l); next++ {
			if l[next] > l[at] && isBetter(from[next], rest) {
				rest = from[next]
			}
		}
		from[at] = append([]int{at}, rest...)
		if isBetter(from[at], best) {
			best = from[at]
		}
	}
	return best
}

// shifted tells the kids of a node of b that are shifted.
func (x two) shifted(n *api.VNode) []api.Stamp {
	var stayed []api.Stamp
	var places []int
	for _, kid := range n.Kids {
		if x.hasStayed(kid.Key) {
			stayed = append(stayed, kid.Key)
			places = append(places, in(x.a, kid.Key).at)
		}
	}
	rest := longest(places)
	var out []api.Stamp
	for i, k := range stayed {
		if !slices.Contains(rest, i) {
			out = append(out, k)
		}
	}
	return out
}

func values(n *api.VNode) map[string]string {
	out := map[string]string{}
	if n != nil {
		for _, a := range n.Attrs {
			out[a.Name] = a.Value
		}
	}
	return out
}

// written tells the steps by which a node gets its tag, text and attributes; was is nil of a new one.
func written(was, is *api.VNode) []api.Patch {
	var out []api.Patch
	text := ""
	if was != nil {
		text = was.Text
		if was.Tag != is.Tag {
			out = append(out, api.Patch{Kind: api.PTag, Key: is.Key, Name: is.Tag})
		}
	}
	if text != is.Text {
		out = append(out, api.Patch{Kind: api.PText, Key: is.Key, Value: is.Text})
	}
	had, has := values(was), values(is)
	var names []string
	for name := range had {
		names = append(names, name)
	}
	for name := range has {
		names = append(names, name)
	}
	slices.Sort(names)
	for _, name := range slices.Compact(names) {
		old, wasThere := had[name]
		value, isThere := has[name]
		if !isThere {
			out = append(out, api.Patch{Kind: api.PClear, Key: is.Key, Name: name})
		} else if !wasThere || old != value {
			out = append(out, api.Patch{Kind: api.PSet, Key: is.Key, Name: name, Value: value})
		}
	}
	return out
}

func (x two) patch() []api.Patch {
	var out []api.Patch
	for _, s := range x.a {
		if k := s.n.Key; x.isGone(k) || x.isStrange(k) {
			out = append(out, api.Patch{Kind: api.PTake, Key: k})
		}
	}
	for _, s := range x.a {
		if k := s.n.Key; x.isGone(k) {
			out = append(out, api.Patch{Kind: api.PDrop, Key: k})
		}
	}
	for _, s := range x.b {
		out = append(out, written(in(x.a, s.n.Key).n, s.n)...)
		shifted := x.shifted(s.n)
		for i, kid := range s.n.Kids {
			after := root
			if i > 0 {
				after = s.n.Kids[i-1].Key
			}
			if x.isNew(kid.Key) {
				out = append(out, api.Patch{Kind: api.PMake, Key: kid.Key, Name: kid.Tag})
			}
			if x.isNew(kid.Key) || x.isStrange(kid.Key) {
				out = append(out, api.Patch{Kind: api.PPut, Key: kid.Key, Parent: s.n.Key, After: after})
			}
			if slices.Contains(shifted, kid.Key) {
				out = append(out, api.Patch{Kind: api.PShift, Key: kid.Key, After: after})
			}
		}
	}
	return out
}

func plainErr(a, b api.VNode) api.Errno {
	for _, t := range []api.VNode{a, b} {
		if e := vtree.Check(t); e != api.OK {
			return e
		}
	}
	if a.Key != b.Key {
		return api.ErrState
	}
	return api.OK
}

// wantAsModel holds both calls against the model, and the patch against all that follows of it.
func wantAsModel(t testing.TB, a, b api.VNode) []api.Patch {
	t.Helper()
	e := plainErr(a, b)
	if e != api.OK {
		wantRefused(t, a, b, e)
		return nil
	}
	x := twoOf(&a, &b)
	got, e := Of(a, b)
	want := x.patch()
	if e != api.OK || !slices.Equal(got, want) {
		t.Fatalf("from\n%sto\n%sgot %d: %s\nwant %s", spelt(a), spelt(b), e, lines(got), lines(want))
	}
	for _, k := range []api.Stamp{root, trash, stamp(999, 3), stamp(-1, -1)} {
		wantShifts(t, a, b, x, k)
	}
	for _, s := range slices.Concat(x.a, x.b) {
		wantShifts(t, a, b, x, s.n.Key)
	}
	wantFollows(t, a, b, x, got)
	return got
}

func wantShifts(t testing.TB, a, b api.VNode, x two, k api.Stamp) {
	t.Helper()
	want, why := 0, api.ErrNone
	if is := in(x.b, k); is.n != nil {
		want, why = len(x.shifted(is.n)), api.OK
	}
	if n, e := Shifts(a, b, k); n != want || e != why {
		t.Fatalf("Shifts %v from\n%sto\n%sgot %d %d, want %d %d", k, spelt(a), spelt(b), n, e, want, why)
	}
}

func wantRefused(t testing.TB, a, b api.VNode, want api.Errno) {
	t.Helper()
	if l, e := Of(a, b); e != want || len(l) != 0 {
		t.Errorf("Of: %d and %d steps, want %d", e, len(l), want)
	}
	for _, k := range []api.Stamp{root, trash, stamp(1, 0), stamp(2, 0), stamp(0, -1), stamp(math.MinInt, math.MaxInt)} {
		if n, e := Shifts(a, b, k); e != want || n != 0 {
			t.Errorf("Shifts %v: %d %d, want %d", k, n, e, want)
		}
	}
}

// wantPatch wants the patch of these texts, with a comma and a blank between.
func wantPatch(t testing.TB, a, b api.VNode, want string) {
	t.Helper()
	l, e := Of(a, b)
	if got := lines(l); got != want || e != api.OK {
		t.Errorf("from\n%sto\n%s%d: %s\nwant %s", spelt(a), spelt(b), e, got, want)
	}
	wantAsModel(t, a, b)
}

// P18.1, the chapter's examples.
func TestExamples(t *testing.T) {
	wantPatch(t, tree("root(1.0 2.0 3.0)"), tree("root(3.0 1.0 2.0)"), "shift 3.0 -")
	wantPatch(t, tree("root(1.0(2.0))"), tree("root(2.0(1.0))"), "take 1.0, take 2.0, put 2.0 root -, put 1.0 2.0 -")
}

// P18.1: where nodes stand.
func TestPlaces(t *testing.T) {
	for _, x := range []struct{ a, b, want string }{
		{"root", "root", ""},
		{"root(1.0(2.0) 3.0)", "root(1.0(2.0) 3.0)", ""},
		{"root(1.0 2.0)", "root(2.0 1.0)", "shift 1.0 2.0"},
		{"root(1.0 2.0 3.0)", "root(3.0 2.0 1.0)", "shift 2.0 3.0, shift 1.0 2.0"},
		{"root(1.0 2.0 3.0)", "root(2.0 3.0 1.0)", "shift 1.0 3.0"},
		{"root(1.0 2.0 3.0)", "root(2.0 1.0 3.0)", "shift 1.0 2.0"},
		{"root(1.0 2.0 3.0 4.0)", "root(2.0 1.0 4.0 3.0)", "shift 1.0 2.0, shift 3.0 4.0"},
		{"root(1.0(2.0 3.0) 4.0(5.0 6.0))", "root(4.0(6.0 5.0) 1.0(3.0 2.0))", "shift 1.0 4.0, shift 5.0 6.0, shift 2.0 3.0"},
		// Who is gone.
		{"root(1.0 2.0 3.0)", "root(1.0 3.0)", "take 2.0, drop 2.0"},
		{"root(1.0(2.0(3.0)))", "root", "take 1.0, take 2.0, take 3.0, drop 1.0, drop 2.0, drop 3.0"},
		{"root(1.0(2.0) 3.0)", "root(3.0)", "take 1.0, take 2.0, drop 1.0, drop 2.0"},
		{"root(1.0 2.0 3.0)", "root(3.0 1.0)", "take 2.0, drop 2.0, shift 1.0 3.0"},
		// Who is new: its parent's kids ahead of its own.
		{"root", "root(1.0(2.0) 3.0)", "make 1.0 p, put 1.0 root -, make 3.0 p, put 3.0 root 1.0, make 2.0 p, put 2.0 1.0 -"},
		{"root(1.0 2.0)", "root(1.0 3.0 2.0)", "make 3.0 p, put 3.0 root 1.0"},
		{"root(1.0 2.0)", "root(3.0 2.0 1.0)", "make 3.0 p, put 3.0 root -, shift 1.0 2.0"},
		{"root(1.0)", "root(2.0)", "take 1.0, drop 1.0, make 2.0 p, put 2.0 root -"},
		// Who is strange.
		{"root(1.0 2.0)", "root(2.0(1.0))", "take 1.0, put 1.0 2.0 -"},
		{"root(1.0(2.0))", "root(1.0 2.0)", "take 2.0, put 2.0 root 1.0"},
		{"root(1.0(2.0))", "root(2.0 1.0)", "take 2.0, put 2.0 root -"},
		{"root(1.0(2.0(3.0)))", "root(3.0)", "take 1.0, take 2.0, take 3.0, drop 1.0, drop 2.0, put 3.0 root -"},
		{"root(1.0(2.0(3.0)))", "root(3.0(2.0(1.0)))", "take 1.0, take 2.0, take 3.0, put 3.0 root -, put 2.0 3.0 -, put 1.0 2.0 -"},
		{"root(1.0)", "root(2.0(1.0))", "take 1.0, make 2.0 p, put 2.0 root -, put 1.0 2.0 -"},
		{"root(1.0(2.0))", "root(3.0(2.0))", "take 1.0, take 2.0, drop 1.0, make 3.0 p, put 3.0 root -, put 2.0 3.0 -"},
		// Who stays beneath one that is strange, or beneath one that is shifted, is not touched.
		{"root(1.0(2.0 3.0) 4.0)", "root(4.0(1.0(2.0 3.0)))", "take 1.0, put 1.0 4.0 -"},
		{"root(1.0(2.0 3.0) 4.0)", "root(4.0(1.0(3.0 2.0)))", "take 1.0, put 1.0 4.0 -, shift 2.0 3.0"},
		{"root(1.0(2.0 3.0) 4.0)", "root(4.0 1.0(2.0 3.0))", "shift 1.0 4.0"},
		// Siblings that go or come don't count among those that stay.
		{"root(1.0 2.0 3.0 4.0(5.0))", "root(5.0 3.0 6.0 4.0 1.0)", "take 2.0, take 5.0, drop 2.0, put 5.0 root -, make 6.0 p, put 6.0 root 3.0, shift 1.0 4.0"},
		// The topmost node has any node's name.
		{"trash(1.0 2.0)", "trash(2.0 1.0)", "shift 1.0 2.0"},
		{"5.0(1.0(2.0))", "5.0(2.0 1.0)", "take 2.0, put 2.0 5.0 -"},
		{"1099511627776.63(1.0)", "1099511627776.63(1.63(1.0))", "take 1.0, make 1.63 p, put 1.63 1099511627776.63 -, put 1.0 1.63 -"},
	} {
		wantPatch(t, tree(x.a), tree(x.b), x.want)
	}
}

// Of several longest rising parts the first one rests.
func TestWhoRests(t *testing.T) {
	for _, x := range []struct{ b, want string }{
		{"root(3.0 1.0 2.0 5.0 4.0)", "shift 3.0 -, shift 4.0 5.0"},
		{"root(5.0 4.0 3.0 2.0 1.0)", "shift 4.0 5.0, shift 3.0 4.0, shift 2.0 3.0, shift 1.0 2.0"},
		{"root(2.0 1.0 4.0 3.0 5.0)", "shift 1.0 2.0, shift 3.0 4.0"},
		{"root(4.0 5.0 1.0 2.0 3.0)", "shift 4.0 -, shift 5.0 4.0"},
		{"root(4.0 5.0 1.0 2.0)", "take 3.0, drop 3.0, shift 1.0 5.0, shift 2.0 1.0"},
		{"root(1.0 5.0 2.0 3.0 4.0)", "shift 5.0 1.0"},
		{"root(2.0 3.0 4.0 5.0 1.0)", "shift 1.0 5.0"},
	} {
		wantPatch(t, tree("root(1.0 2.0 3.0 4.0 5.0)"), tree(x.b), x.want)
	}
}

// P18.1: tags, texts and attributes.
func TestFields(t *testing.T) {
	top := tree("root")
	tagged := top
	tagged.Tag = "li"
	for _, x := range []struct {
		a, b api.VNode
		want string
	}{
		{top, tagged, "tag root li"},
		{top, having(top, "x"), `text root "x"`},
		{having(top, "x"), top, `text root ""`},
		{having(top, "x"), having(top, "y"), `text root "y"`},
		{having(top, "x"), having(top, "x"), ""},
		{top, having(top, "", "a", ""), `set root a ""`},
		{having(top, "", "a", ""), top, "clear root a"},
		{having(top, "", "a", ""), having(top, "", "a", ""), ""},
		{having(top, "", "a", "x"), having(top, "", "a", ""), `set root a ""`},
		{having(top, "", "a", "x", "c", "y"), having(top, "", "b", "x", "c", "y"), `clear root a, set root b "x"`},
		{having(top, "", "b", "x", "c", "y"), having(top, "", "a", "x", "c", "y"), `set root a "x", clear root b`},
		{having(top, "", "a", "1", "b", "2", "c", "3"), having(top, "", "b", "3", "c", "3", "d", "4"), `clear root a, set root b "3", set root d "4"`},
		{having(top, "", "a", "", "a0", "", "b", ""), having(top, "", "a-", "", "aa", "", "b", ""), `clear root a, set root a- "", clear root a0, set root aa ""`},
		{having(top, "x", "b", "1"), having(tagged, "y", "a", "1"), `tag root li, text root "y", set root a "1", clear root b`},
	} {
		wantPatch(t, x.a, x.b, x.want)
		// Beneath the topmost node, and of one that goes elsewhere, likewise.
		a, b := x.a, x.b
		a.Key, b.Key = stamp(1, 0), stamp(1, 0)
		want := strings.ReplaceAll(x.want, "root", "1.0")
		above := func(kids ...api.VNode) api.VNode { return api.VNode{Tag: "root", Kids: kids} }
		wantPatch(t, above(a), above(b), want)
		wantPatch(t, above(a, tree("2.0")), above(api.VNode{Key: stamp(2, 0), Tag: "p", Kids: []api.VNode{b}}), joined("take 1.0, put 1.0 2.0 -", want))
	}
}

func joined(texts ...string) string {
	return strings.Join(slices.DeleteFunc(texts, func(s string) bool { return s == "" }), ", ")
}

// A new node gets its tag as it is made, and all else when its own turn has come.
func TestFieldsOfNewNodes(t *testing.T) {
	kid := having(api.VNode{Key: stamp(1, 0), Tag: "li"}, "hey", "a", "", "b", "x")
	other := having(api.VNode{Key: stamp(2, 0), Tag: "b", Kids: []api.VNode{having(tree("3.0"), "")}}, "", "c", "y")
	b := having(api.VNode{Tag: "p", Kids: []api.VNode{kid, other}}, "top")
	wantPatch(t, tree("root"), b, `text root "top", make 1.0 li, put 1.0 root -, make 2.0 b, put 2.0 root 1.0, text 1.0 "hey", set 1.0 a "", set 1.0 b "x", set 2.0 c "y", make 3.0 p, put 3.0 2.0 -`)
	wantPatch(t, b, tree("root"), `take 1.0, take 2.0, take 3.0, drop 1.0, drop 2.0, drop 3.0, text root ""`)
}

// P18.2
func TestShifts(t *testing.T) {
	a := tree("root(1.0(4.0 5.0 6.0) 2.0 3.0)")
	b := tree("root(3.0(7.0(6.0 5.0)) 2.0 1.0(4.0))")
	for text, want := range map[string]int{"root": 2, "1.0": 0, "2.0": 0, "3.0": 0, "4.0": 0, "5.0": 0, "6.0": 0, "7.0": 0} {
		if n, e := Shifts(a, b, key(text)); n != want || e != api.OK {
			t.Errorf("%s: %d %d", text, n, e)
		}
	}
	if n, e := Shifts(a, tree("root(1.0(6.0 8.0 5.0 4.0 2.0) 3.0)"), stamp(1, 0)); n != 2 || e != api.OK {
		t.Errorf("%d %d", n, e)
	}
	for _, text := range []string{"trash", "8.0", "1.1"} {
		if n, e := Shifts(a, b, key(text)); n != 0 || e != api.ErrNone {
			t.Errorf("%s: %d %d", text, n, e)
		}
	}
	// Only b counts: 7.0 is in a alone then.
	if n, e := Shifts(b, a, stamp(7, 0)); n != 0 || e != api.ErrNone {
		t.Errorf("%d %d", n, e)
	}
	for _, k := range []api.Stamp{stamp(-1, 0), stamp(0, 2), stamp(1, 64), stamp(math.MaxInt, math.MinInt)} {
		if n, e := Shifts(a, b, k); n != 0 || e != api.ErrNone {
			t.Errorf("%v: %d %d", k, n, e)
		}
	}
}

// The errors

func wide(n int) api.VNode {
	t := api.VNode{Tag: "root"}
	for i := 1; i < n; i++ {
		t.Kids = append(t.Kids, api.VNode{Key: stamp(i, 1), Tag: "p"})
	}
	return t
}

func chain(n int) api.VNode {
	t := api.VNode{Key: stamp(n-1, 1), Tag: "p"}
	for i := n - 2; i >= 0; i-- {
		t = api.VNode{Key: stamp(i, 1), Tag: "p", Kids: []api.VNode{t}}
	}
	t.Key, t.Tag = root, "root"
	return t
}

// wrongTrees tells trees that vtree.Check refuses, at the topmost node or deep within.
func wrongTrees() map[string]api.VNode {
	long := strings.Repeat("x", 257)
	top := tree("root")
	noTag := tree("root(1.0(2.0))")
	noTag.Kids[0].Kids[0].Tag = ""
	loop := api.VNode{Tag: "root", Kids: make([]api.VNode, 1)}
	loop.Kids[0] = api.VNode{Key: stamp(1, 0), Tag: "p", Kids: loop.Kids}
	return map[string]api.VNode{
		"nothing at all":    {},
		"no tag":            noTag,
		"key":               {Key: stamp(0, 2), Tag: "p"},
		"a kid's key":       tree("root(1.0(trash))"),
		"twice":             tree("root(1.0(2.0) 2.0)"),
		"the topmost twice": tree("1.0(1.0)"),
		"text":              having(top, long),
		"attribute's name":  having(top, "", "A", ""),
		"attribute's value": having(top, "", "a", long),
		"attributes fall":   having(top, "", "b", "", "a", ""),
		"attribute twice":   having(top, "", "a", "", "a", ""),
		"nodes":             wide(8193),
		"deep":              chain(8193),
		"beneath itself":    loop,
	}
}

// vtree.Check's error of a, then of b; then that of the topmost keys.
func TestErrors(t *testing.T) {
	wrong := wrongTrees()
	for name, x := range wrong {
		e := vtree.Check(x)
		if e == api.OK {
			t.Fatalf("%s is right", name)
		}
		for _, right := range []api.VNode{tree("root(1.0 2.0)"), tree("7.0"), tree("trash")} {
			wantRefused(t, x, right, e)
			wantRefused(t, right, x, e)
		}
		for _, y := range wrong {
			wantRefused(t, x, y, e)
		}
	}
	some := []api.VNode{tree("root(1.0 2.0)"), tree("trash(1.0 2.0)"), tree("1.0(2.0)"), tree("2.0(1.0)"), tree("1.1")}
	for i, a := range some {
		for k, b := range some {
			if i != k {
				wantRefused(t, a, b, api.ErrState)
			}
		}
	}
}
