package dom

import (
	"math/rand"
	"slices"
	"strconv"
	"strings"
	"testing"

	"topiary/api"
	"topiary/diff"
	"topiary/patch"
	"topiary/vtree"
)

// live is a dom, and what is known of it from outside: whose pointer is whose, and what those were that are no more.
type live struct {
	d     *Dom
	nodes map[api.Stamp]*Node
	lone  []lone
}

type lone struct {
	n *Node
	x api.VNode
}

func begin(t testing.TB, x api.VNode) *live {
	t.Helper()
	v := &live{d: mustLoad(t, x)}
	wantDom(t, v.d, x)
	v.look(x)
	return v
}

// look keeps the pointers of all nodes of x.
func (v *live) look(x api.VNode) {
	v.nodes = map[api.Stamp]*Node{}
	for _, n := range laid(&x) {
		v.nodes[n.Key] = v.d.Find(n.Key)
	}
}

// apply holds Apply against what layer 17 tells of the dom's tree, and asks whether each node is the node that it was.
func (v *live) apply(t testing.TB, l []api.Patch) api.Errno {
	t.Helper()
	was := v.d.Read()
	want, at, why := patch.Apply(was, l)
	n, e := v.d.Apply(l)
	if n != at || e != why {
		t.Fatalf("%sby\n%sgot %d %d, want %d %d", spelt(was), lines(l), n, e, at, why)
	}
	if e != api.OK {
		want = was
	}
	wantDom(t, v.d, want)
	known := map[*Node]struct{}{}
	for _, n := range v.nodes {
		known[n] = struct{}{}
	}
	if e == api.OK {
		v.follow(was, l)
	}
	for _, x := range v.lone {
		known[x.n] = struct{}{}
		wantLone(t, x.n, x.x)
	}
	for _, x := range laid(&want) {
		got := v.d.Find(x.Key)
		if old := v.nodes[x.Key]; old != nil && got != old {
			t.Fatalf("%sby\n%s%v is another node", spelt(was), lines(l), x.Key)
		} else if _, isKnown := known[got]; old == nil && isKnown {
			t.Fatalf("%sby\n%s%v is an old node", spelt(was), lines(l), x.Key)
		}
	}
	v.look(want)
	return e
}

// follow goes through steps that were done: whoever is dropped is no longer the node of its key, and keeps what it had by then.
func (v *live) follow(was api.VNode, l []api.Patch) {
	own := map[api.Stamp]api.VNode{}
	for _, n := range laid(&was) {
		own[n.Key] = api.VNode{Key: n.Key, Tag: n.Tag, Text: n.Text, Attrs: slices.Clone(n.Attrs)}
	}
	for _, p := range l {
		x := own[p.Key]
		at, isThere := slices.BinarySearchFunc(x.Attrs, p.Name, func(a api.Attr, name string) int { return strings.Compare(a.Name, name) })
		switch p.Kind {
		case api.PMake:
			x = api.VNode{Key: p.Key, Tag: p.Name}
		case api.PDrop:
			if n := v.nodes[p.Key]; n != nil {
				v.lone = append(v.lone, lone{n, x})
				delete(v.nodes, p.Key)
			}
		case api.PTag:
			x.Tag = p.Name
		case api.PText:
			x.Text = p.Value
		case api.PSet:
			if isThere {
				x.Attrs = slices.Delete(x.Attrs, at, at+1)
			}
			x.Attrs = slices.Insert(x.Attrs, at, api.Attr{Name: p.Name, Value: p.Value})
		case api.PClear:
			x.Attrs = slices.Delete(x.Attrs, at, at+1)
		}
		own[p.Key] = x
	}
}

func wantDone(t testing.TB, v *live, texts, want string) {
	t.Helper()
	if e := v.apply(t, steps(t, texts)); e != api.OK {
		t.Fatalf("%s: %d", texts, e)
	}
	if want != "" && keysOf(v.d.Read()) != keysOf(tree(want)) {
		t.Fatalf("%s: %s, want %s", texts, keysOf(v.d.Read()), want)
	}
}

// keysOf tells a tree's keys alone, each one's kids in brackets behind it.
func keysOf(x api.VNode) string {
	out := keyText(x.Key)
	for i, kid := range x.Kids {
		out += map[bool]string{true: "(", false: " "}[i == 0] + keysOf(kid)
	}
	if len(x.Kids) > 0 {
		out += ")"
	}
	return out
}

// P19.2: Apply

func TestPlaces(t *testing.T) {
	for _, x := range []struct{ texts, want string }{
		{"shift 1.0 2.0", "root(2.0 1.0(3.0(5.0) 4.0))"},
		{"shift 2.0 -", "root(2.0 1.0(3.0(5.0) 4.0))"},
		{"shift 1.0 -", "root(1.0(3.0(5.0) 4.0) 2.0)"},
		{"shift 2.0 1.0", "root(1.0(3.0(5.0) 4.0) 2.0)"},
		{"take 1.0, put 1.0 root 2.0", "root(2.0 1.0(3.0(5.0) 4.0))"},
		{"take 1.0, put 1.0 2.0 -", "root(2.0(1.0(3.0(5.0) 4.0)))"},
		{"take 2.0, put 2.0 1.0 -", "root(1.0(2.0 3.0(5.0) 4.0))"},
		{"take 2.0, put 2.0 1.0 3.0", "root(1.0(3.0(5.0) 2.0 4.0))"},
		{"take 2.0, put 2.0 1.0 4.0", "root(1.0(3.0(5.0) 4.0 2.0))"},
		{"take 2.0, put 2.0 5.0 -", "root(1.0(3.0(5.0(2.0)) 4.0))"},
		{"take 5.0, put 5.0 root 1.0", "root(1.0(3.0 4.0) 5.0 2.0)"},
		// A node goes beneath one that was beneath it.
		{"take 1.0, take 3.0, put 3.0 root -, put 1.0 5.0 -", "root(3.0(5.0(1.0(4.0))) 2.0)"},
		// One that is held with another one beneath it; and one that is beneath one that is held.
		{"take 1.0, take 4.0, put 4.0 2.0 -, put 1.0 2.0 4.0", "root(2.0(4.0 1.0(3.0(5.0))))"},
		{"take 5.0, drop 5.0", "root(1.0(3.0 4.0) 2.0)"},
		{"take 1.0, take 3.0, take 4.0, drop 4.0, drop 1.0, put 3.0 root 2.0", "root(2.0 3.0(5.0))"},
		{"make 6.0 p, put 6.0 4.0 -", "root(1.0(3.0(5.0) 4.0(6.0)) 2.0)"},
		{"make 6.0 p, drop 6.0", "root(1.0(3.0(5.0) 4.0) 2.0)"},
		{"make 7.0 p, make 6.0 p, put 6.0 root 2.0, put 7.0 6.0 -", "root(1.0(3.0(5.0) 4.0) 2.0 6.0(7.0))"},
		{"take 2.0, put 2.0 root 1.0, take 2.0, put 2.0 root -, shift 2.0 1.0", "root(1.0(3.0(5.0) 4.0) 2.0)"},
	} {
		v := begin(t, family())
		wantDone(t, v, x.texts, x.want)
	}
}

func TestWriting(t *testing.T) {
	v := begin(t, family())
	wantDone(t, v, "tag 1.0 q, text 1.0 \"x\", set 1.0 a \"0\", set 1.0 b \"2\", set 1.0 c \"\", set 1.0 e \"e\", clear 1.0 d", "")
	one := v.nodes[key("1.0")]
	wantOwn(t, one, &api.VNode{Key: key("1.0"), Tag: "q", Text: "x", Attrs: []api.Attr{{Name: "a", Value: "0"}, {Name: "b", Value: "2"}, {Name: "c"}, {Name: "e", Value: "e"}}})
	wantDone(t, v, "clear 1.0 a, clear 1.0 b, clear 1.0 c, clear 1.0 e, text 1.0 \"\"", "")
	wantOwn(t, one, &api.VNode{Key: key("1.0"), Tag: "q"})
	// The topmost node; one that is held; one beneath it; one that was just made.
	wantDone(t, v, "tag root r, text root \"r\", set root a \"\", take 1.0, text 1.0 \"1\", tag 5.0 v, set 5.0 z \"\", put 1.0 2.0 -, make 6.0 p, set 6.0 a \"6\", tag 6.0 s, text 6.0 \"six\", put 6.0 root -", "root(6.0 2.0(1.0(3.0(5.0) 4.0)))")
}

// A node that is dropped, and one that is made by the same key, are two nodes.
func TestDroppedAndMadeAnew(t *testing.T) {
	v := begin(t, family())
	five, two := v.d.Find(key("5.0")), v.d.Find(key("2.0"))
	wantDone(t, v, "take 5.0, set 5.0 a \"kept\", drop 5.0, make 5.0 b, put 5.0 3.0 -", "root(1.0(3.0(5.0) 4.0) 2.0)")
	if v.d.Find(key("5.0")) == five {
		t.Error("5.0 is the node that was dropped")
	}
	wantLone(t, five, having(tree("5.0"), "", "a", "kept"))
	wantDone(t, v, "text 5.0 \"another one\", take 2.0, drop 2.0", "root(1.0(3.0(5.0) 4.0))")
	wantLone(t, five, having(tree("5.0"), "", "a", "kept"))
	x := having(tree("2.0"), "two", "id", "x")
	x.Tag = "li"
	wantLone(t, two, x)
	if v.d.Find(key("2.0")) != nil || v.d.Len() != 5 {
		t.Error("2.0 is found")
	}
	wantDone(t, v, "make 2.0 p, put 2.0 5.0 -", "root(1.0(3.0(5.0(2.0)) 4.0))")
	wantLone(t, two, x)
	// Dropped twice over: made and dropped in one patch, under the key of one that was there.
	wantDone(t, v, "take 2.0, drop 2.0, make 2.0 q, drop 2.0, make 2.0 s, put 2.0 root -", "root(2.0 1.0(3.0(5.0) 4.0))")
}

func TestRefusedPatches(t *testing.T) {
	for _, x := range []struct {
		texts string
		at    int
		e     api.Errno
	}{
		{"take 1.0", 1, api.ErrState},
		{"take 1.0, take 3.0, put 1.0 root -", 3, api.ErrState},
		{"take 9.0", 0, api.ErrNone},
		{"text 2.0 \"y\", take 1.0, take 1.0", 2, api.ErrNone},
		{"take 1.0, drop 1.0", 1, api.ErrState},
		{"drop 2.0", 0, api.ErrNone},
		{"make 2.0 p", 0, api.ErrTwice},
		{"shift 1.0 2.0, take 5.0, drop 5.0, set 1.0 q \"\", clear 1.0 b, make 6.0 p, put 6.0 3.0 -, put 6.0 3.0 -", 7, api.ErrNone},
		{"take 1.0, put 1.0 3.0 -", 1, api.ErrNone},
		{"take 2.0, put 2.0 1.0 5.0", 1, api.ErrState},
		{"shift 1.0 4.0", 0, api.ErrState},
		{"shift 9.0 -", 0, api.ErrNone},
		{"tag 9.0 p", 0, api.ErrNone},
		{"tag 1.0 z, clear 1.0 a", 1, api.ErrNone},
	} {
		v := begin(t, family())
		l := steps(t, x.texts)
		n, e := v.d.Apply(l)
		if n != x.at || e != x.e {
			t.Errorf("%s: %d %d, want %d %d", x.texts, n, e, x.at, x.e)
		}
		v.apply(t, l)
		wantDom(t, v.d, family())
	}
}

func TestWrongSteps(t *testing.T) {
	long := strings.Repeat("x", 257)
	for want, wrong := range map[api.Errno][]api.Patch{
		api.ErrRange: {{}, {Kind: -1}, {Kind: 10}, {Kind: 1 << 62}, {Kind: -1 << 63}},
		api.ErrForm: {
			{Kind: api.PTake}, {Kind: api.PTake, Key: root, Parent: trash}, {Kind: api.PTake, Key: trash}, {Kind: api.PTag, Key: api.Stamp{Replica: 2}, Name: "p"},
			{Kind: api.PPut, Key: key("1.0"), Parent: key("1.0")}, {Kind: api.PShift, Key: key("1.0"), After: key("1.0")}, {Kind: api.PShift, Key: key("1.0"), After: trash},
			{Kind: api.PDrop, Key: key("1.0"), Value: "x"},
		},
		api.ErrName: {{Kind: api.PTag, Key: key("1.0")}, {Kind: api.PSet, Key: key("1.0"), Name: "A"}, {Kind: api.PText, Key: key("1.0"), Name: "a"}},
		api.ErrLong: {{Kind: api.PText, Key: key("1.0"), Value: long}, {Kind: api.PSet, Key: key("1.0"), Name: "a", Value: long}, {Kind: api.PTake, Key: key("1.0"), Value: long}},
	} {
		for _, p := range wrong {
			v := begin(t, family())
			for _, ahead := range []string{"", "text 2.0 \"y\"", "take 2.0, drop 2.0, shift 3.0 4.0"} {
				l := []api.Patch{p}
				if ahead != "" {
					l = append(steps(t, ahead), p)
				}
				if n, e := v.d.Apply(l); n != len(l)-1 || e != want {
					t.Errorf("%s: %d %d, want %d", lines(l), n, e, want)
				}
				v.apply(t, l)
				wantDom(t, v.d, family())
			}
		}
	}
}

func TestNoSteps(t *testing.T) {
	v := begin(t, family())
	for _, l := range [][]api.Patch{nil, {}} {
		if n, e := v.d.Apply(l); n != 0 || e != api.OK {
			t.Errorf("%d %d", n, e)
		}
		v.apply(t, l)
	}
}

// everyStep tells steps of all kinds with these keys in all places.
func everyStep(keys ...string) []api.Patch {
	var out []api.Patch
	add := func(p api.Patch) {
		if patch.Check(p) == api.OK {
			out = append(out, p)
		}
	}
	for _, k := range keys {
		for _, kind := range []int{api.PTake, api.PDrop, api.PText} {
			add(api.Patch{Kind: kind, Key: key(k)})
		}
		for _, kind := range []int{api.PMake, api.PTag, api.PSet, api.PClear} {
			add(api.Patch{Kind: kind, Key: key(k), Name: "b"})
		}
		for _, after := range keys {
			add(api.Patch{Kind: api.PShift, Key: key(k), After: key(after)})
			for _, parent := range keys {
				add(api.Patch{Kind: api.PPut, Key: key(k), Parent: key(parent), After: key(after)})
			}
		}
	}
	return out
}

// All patches of up to three steps: behind each that can be done, each step.
func TestAllShortPatches(t *testing.T) {
	some := everyStep("root", "1.0", "2.0", "3.0", "4.0")
	x := tree("root(1.0(2.0) 3.0)")
	count := map[api.Errno]int{}
	var all func(l []api.Patch)
	all = func(l []api.Patch) {
		for _, p := range some {
			longer := append(slices.Clone(l), p)
			e := begin(t, x).apply(t, longer)
			count[e]++
			_, at, why := patch.Apply(x, longer)
			if couldBe := why == api.OK || at == len(longer); couldBe && len(longer) < 3 {
				all(longer)
			}
		}
	}
	all(nil)
	for _, e := range []api.Errno{api.OK, api.ErrNone, api.ErrTwice, api.ErrState} {
		if count[e] == 0 {
			t.Errorf("none with %d", e)
		}
	}
}

// grown tells some tree of n nodes.
func grown(p *rand.Rand, n int) api.VNode {
	x := api.VNode{Tag: "root"}
	if p.Intn(3) == 0 {
		x.Key = []api.Stamp{trash, stamp(77, 7)}[p.Intn(2)]
	}
	for i := 1; i < n; i++ {
		nodes := laid(&x)
		above := nodes[p.Intn(len(nodes))]
		kid := api.VNode{Key: stamp(i, 0), Tag: []string{"p", "b", "li"}[p.Intn(3)], Text: anyValue(p)}
		for _, name := range []string{"a", "b", "c", "d"} {
			if p.Intn(3) == 0 {
				kid.Attrs = append(kid.Attrs, api.Attr{Name: name, Value: anyValue(p)})
			}
		}
		above.Kids = slices.Insert(above.Kids, p.Intn(len(above.Kids)+1), kid)
	}
	return x
}

func anyValue(p *rand.Rand) string {
	return []string{"", "x", "y", "\"\xff\x00", strings.Repeat("z", 256)}[p.Intn(5)]
}

// anyStep tells a step with keys of x, and some others.
func anyStep(p *rand.Rand, x api.VNode, held []api.Stamp, n int) api.Patch {
	keys := vtree.Keys(x)
	anyKey := func() api.Stamp {
		if p.Intn(10) == 0 {
			return stamp(1+p.Intn(n+3), 0)
		}
		return keys[p.Intn(len(keys))]
	}
	s := api.Patch{Kind: 1 + p.Intn(9), Key: anyKey()}
	if s.Kind == api.PMake {
		s.Key = stamp(1+p.Intn(n+3), 0)
	}
	if len(held) > 0 && (s.Kind == api.PDrop || s.Kind == api.PPut || p.Intn(4) == 0) {
		s.Key = held[p.Intn(len(held))]
	}
	switch s.Kind {
	case api.PMake, api.PTag:
		s.Name = []string{"p", "b", "li"}[p.Intn(3)]
	case api.PPut:
		s.Parent = anyKey()
	case api.PText:
		s.Value = anyValue(p)
	case api.PSet:
		s.Value = anyValue(p)
		fallthrough
	case api.PClear:
		s.Name = []string{"a", "b", "c", "d"}[p.Intn(4)]
	}
	if s.Kind != api.PPut && s.Kind != api.PShift {
		return s
	}
	above := s.Parent
	if s.Kind == api.PShift {
		above, _ = vtree.Parent(x, s.Key)
	}
	if n, ok := vtree.Find(x, above); ok && len(n.Kids) > 0 && p.Intn(3) > 0 {
		s.After = n.Kids[p.Intn(len(n.Kids))].Key
	} else if p.Intn(9) == 0 {
		s.After = anyKey()
	}
	return s
}

// wholePatch tells of some steps those that can be done, one behind the other, and then what puts away all that is held.
func wholePatch(p *rand.Rand, x api.VNode, tries, n int) []api.Patch {
	var out []api.Patch
	var held []api.Stamp
	seen := x
	for range tries {
		s := anyStep(p, seen, held, n)
		longer := append(slices.Clone(out), s)
		u, at, e := patch.Apply(x, longer)
		if e != api.OK && at < len(longer) {
			continue
		}
		out = longer
		switch s.Kind {
		case api.PTake, api.PMake:
			held = append(held, s.Key)
		case api.PDrop, api.PPut:
			held = slices.DeleteFunc(held, func(k api.Stamp) bool { return k == s.Key })
		}
		if e == api.OK {
			seen = u
		}
	}
	for _, k := range held {
		out = append(out, api.Patch{Kind: api.PPut, Key: k, Parent: x.Key})
	}
	return out
}

// Many patches behind one another on one dom, now and then one that can't be done to its end.
func TestManyPatches(t *testing.T) {
	p := rand.New(rand.NewSource(19))
	dropped, refused := 0, 0
	for range 150 {
		n := 1 + p.Intn(12)
		v := begin(t, grown(p, n))
		for range 12 {
			l := wholePatch(p, v.d.Read(), p.Intn(14), n)
			if p.Intn(3) == 0 {
				l = append(l, anyStep(p, v.d.Read(), nil, n))
			}
			if p.Intn(6) == 0 && len(l) > 1 {
				l = l[:len(l)-1]
			}
			if v.apply(t, l) != api.OK {
				refused++
			}
		}
		dropped += len(v.lone)
	}
	if dropped < 100 || refused < 100 {
		t.Errorf("%d dropped, %d refused", dropped, refused)
	}
}

// P19.7: the patch between two trees

func TestFromOneTreeToAnother(t *testing.T) {
	p := rand.New(rand.NewSource(197))
	for range 300 {
		n := 1 + p.Intn(10)
		v := begin(t, grown(p, n))
		for range 4 {
			next := grown(p, 1+p.Intn(n+3))
			next.Key = v.d.Top().Key()
			old := v.nodes
			l, e := diff.Of(v.d.Read(), next)
			if e != api.OK {
				t.Fatal(e)
			}
			if e = v.apply(t, l); e != api.OK {
				t.Fatal(e)
			}
			wantDom(t, v.d, next)
			for _, k := range vtree.Keys(next) {
				if was := old[k]; was != nil && v.d.Find(k) != was {
					t.Fatalf("%v is another node", k)
				}
			}
		}
	}
}

func TestBetweenAllSmallTrees(t *testing.T) {
	all := slices.Concat(small(1), small(2), small(3), small(4), small(5))
	for _, a := range all {
		for _, b := range all {
			v := begin(t, a)
			old := v.nodes
			l, _ := diff.Of(a, b)
			if e := v.apply(t, l); e != api.OK {
				t.Fatal(e)
			}
			wantDom(t, v.d, b)
			for _, k := range vtree.Keys(b) {
				if was := old[k]; was != nil && v.d.Find(k) != was {
					t.Fatalf("%v is another node", k)
				}
			}
		}
	}
}

// The limits

func TestMaxNodes(t *testing.T) {
	v := begin(t, wide(8192))
	for _, x := range []struct {
		texts string
		at    int
		e     api.Errno
	}{
		{"make 9000.0 p", 0, api.ErrFull},
		{"take 1.1, make 9000.0 p", 1, api.ErrFull},
		{"make 1.1 p", 0, api.ErrTwice},
		{"take 1.1, drop 1.1, make 9000.0 p, put 9000.0 8191.1 -, make 9001.0 p", 4, api.ErrFull},
	} {
		if n, e := v.d.Apply(steps(t, x.texts)); n != x.at || e != x.e {
			t.Errorf("%s: %d %d", x.texts, n, e)
		}
	}
	wantDom(t, v.d, wide(8192))
	wantDone(t, v, "take 1.1, drop 1.1, make 9000.0 p, put 9000.0 8191.1 -, shift 8191.1 -", "")
	if v.d.Len() != 8192 || v.d.Top().First().First() != v.d.Find(key("9000.0")) {
		t.Error("9000.0")
	}
}

func TestMaxAttrs(t *testing.T) {
	x := tree("root(1.0)")
	for i := range 4095 {
		x.Kids[0].Attrs = append(x.Kids[0].Attrs, api.Attr{Name: "b" + strconv.Itoa(10000+i)})
	}
	v := begin(t, x)
	if n, e := v.d.Apply(steps(t, "set 1.0 a \"\", set 1.0 c \"\"")); n != 1 || e != api.ErrFull {
		t.Errorf("%d %d", n, e)
	}
	wantDom(t, v.d, x)
	wantDone(t, v, "set 1.0 a \"\", set 1.0 a \"1\", clear 1.0 b10000, set 1.0 c \"\"", "")
	if len(v.nodes[key("1.0")].Attrs()) != 4096 {
		t.Error("not all")
	}
}

func TestLargeTrees(t *testing.T) {
	// A long row turned round, one by one; a long chain of which each one goes beneath the root.
	var l []api.Patch
	for i := 2; i < 8192; i++ {
		l = append(l, api.Patch{Kind: api.PShift, Key: stamp(i, 1)})
	}
	v := begin(t, wide(8192))
	if e := v.apply(t, l); e != api.OK || v.d.Top().First().Key() != stamp(8191, 1) || v.d.Top().Last().Key() != stamp(1, 1) {
		t.Error(e)
	}
	v = begin(t, chain(8192))
	l = nil
	for i := 8191; i > 1; i-- {
		l = append(l, api.Patch{Kind: api.PTake, Key: stamp(i, 1)}, api.Patch{Kind: api.PPut, Key: stamp(i, 1), After: stamp(1, 1)})
	}
	if e := v.apply(t, l); e != api.OK || !vtree.Same(v.d.Read(), func() api.VNode { x := wide(8192); x.Kids[0].Tag = "p"; return x }()) {
		t.Error(e)
	}
	// All of it goes beneath the last one's neighbour, and all but the root are dropped.
	v = begin(t, chain(8192))
	wantDone(t, v, "take 8191.1, put 8191.1 root -, take 1.1, put 1.1 8191.1 -", "")
	l, _ = diff.Of(v.d.Read(), tree("root"))
	if e := v.apply(t, l); e != api.OK || v.d.Len() != 1 || len(v.lone) != 8191 {
		t.Error(e, v.d.Len())
	}
}

// The rules that hold everywhere

// roomy tells x with lists that have room behind their ends, in which something lies.
func roomy(x api.VNode) api.VNode {
	x.Attrs = append(slices.Clone(x.Attrs), api.Attr{Name: "lies", Value: "behind"})[:len(x.Attrs)]
	kids := []api.VNode{}
	for _, kid := range x.Kids {
		kids = append(kids, roomy(kid))
	}
	x.Kids = append(kids, api.VNode{Tag: "behind"})[:len(kids)]
	return x
}

func wantBehind(t *testing.T, x api.VNode) {
	t.Helper()
	if got := x.Attrs[:len(x.Attrs)+1][len(x.Attrs)]; got != (api.Attr{Name: "lies", Value: "behind"}) {
		t.Errorf("%v lies behind the attributes of %v", got, x.Key)
	}
	if got := x.Kids[:len(x.Kids)+1][len(x.Kids)]; got.Tag != "behind" {
		t.Errorf("%v lies behind the kids of %v", got, x.Key)
	}
	for _, kid := range x.Kids {
		wantBehind(t, kid)
	}
}

// spoil writes over all of x where it lies.
func spoil(x *api.VNode) {
	for _, n := range laid(x) {
		*n = api.VNode{Key: stamp(99, 9), Tag: "spoilt", Text: "spoilt", Attrs: n.Attrs, Kids: n.Kids}
		for i := range n.Attrs[:cap(n.Attrs)] {
			n.Attrs[:cap(n.Attrs)][i] = api.Attr{Name: "spoilt"}
		}
		for i := len(n.Kids); i < cap(n.Kids); i++ {
			n.Kids[:cap(n.Kids)][i] = api.VNode{Tag: "spoilt"}
		}
	}
}

func TestNothingHandedInIsChangedOrKept(t *testing.T) {
	x := roomy(family())
	d := mustLoad(t, x)
	all := steps(t, "set 1.0 a \"\", set 1.0 b \"\", clear 1.0 d, shift 1.0 2.0, take 5.0, drop 5.0, make 6.0 p, set 6.0 z \"\", put 6.0 1.0 4.0, tag root q")
	l := append(slices.Clone(all), api.Patch{Kind: 77})[:len(all)]
	if _, e := d.Apply(l); e != api.OK {
		t.Fatal(e)
	}
	if !slices.Equal(l, all) || l[:len(l)+1][len(l)] != (api.Patch{Kind: 77}) {
		t.Error("the steps are others")
	}
	if !vtree.Same(x, family()) {
		t.Errorf("the tree is another one\n%s", spelt(x))
	}
	wantBehind(t, x)
	was := d.Read()
	spoil(&x)
	clear(l)
	wantDom(t, d, was)
}

func TestAnswersAreNewMemory(t *testing.T) {
	d := mustLoad(t, family())
	for range 2 {
		x := d.Read()
		spoil(&x)
		links := d.Links()
		clear(links[:cap(links)])
		for _, k := range vtree.Keys(family()) {
			attrs := d.Find(k).Attrs()
			clear(attrs[:cap(attrs)])
		}
		wantDom(t, d, family())
	}
	// What was told ahead stays as it was, whatever is done behind it.
	x, links, attrs := d.Read(), d.Links(), d.Find(key("1.0")).Attrs()
	if _, e := d.Apply(steps(t, "clear 1.0 b, set 1.0 d \"\", shift 1.0 2.0, take 5.0, drop 5.0")); e != api.OK {
		t.Fatal(e)
	}
	f := family()
	if !vtree.Same(x, f) || !slices.Equal(links, plainLinks(&f)) || !slices.Equal(attrs, f.Kids[0].Attrs) {
		t.Error("an answer changed")
	}
	// No two lists of one tree share any.
	x = d.Read()
	for _, n := range laid(&x) {
		n.Attrs = append(n.Attrs, api.Attr{Name: "own", Value: keyText(n.Key)})
	}
	for _, n := range laid(&x) {
		if n.Attrs[len(n.Attrs)-1].Value != keyText(n.Key) {
			t.Errorf("%v shares its attributes", n.Key)
		}
	}
}

// A clone that is made while the dom's attributes have room behind their end goes its own way.
func TestClonesShareNothing(t *testing.T) {
	d := mustLoad(t, family())
	if _, e := d.Apply(steps(t, "set 1.0 f \"\", clear 1.0 f")); e != api.OK {
		t.Fatal(e)
	}
	c := d.Clone()
	d.Apply(steps(t, "set 1.0 f \"d\""))
	c.Apply(steps(t, "set 1.0 g \"c\""))
	if _, ok := d.Find(key("1.0")).Attr("g"); ok {
		t.Error("the dom has what the clone was given")
	}
	if v, _ := c.Find(key("1.0")).Attr("g"); v != "c" {
		t.Errorf("%q", v)
	}
}

func TestListsWithoutElements(t *testing.T) {
	x := api.VNode{Tag: "root", Attrs: []api.Attr{}, Kids: []api.VNode{{Key: key("1.0"), Tag: "p", Attrs: []api.Attr{}, Kids: []api.VNode{}}}}
	d := mustLoad(t, x)
	wantDom(t, d, x)
	wantDom(t, d, api.VNode{Tag: "root", Kids: []api.VNode{{Key: key("1.0"), Tag: "p"}}})
}

// asBytes tells the tree and the patches that any bytes are taken for.
func asBytes(b []byte) (api.VNode, [][]api.Patch) {
	x := api.VNode{Tag: "root"}
	if len(b) > 0 && b[0] >= 128 {
		x.Key = stamp(9, 9)
	}
	for i := 1; i < len(b) && i <= 5; i++ {
		nodes := laid(&x)
		above := nodes[int(b[i])%len(nodes)]
		above.Kids = append(above.Kids, api.VNode{Key: stamp(i, 0), Tag: "p"})
	}
	asKey := func(n byte) api.Stamp {
		if n&7 == 0 {
			return x.Key
		}
		return stamp(int(n&7), 0)
	}
	out := [][]api.Patch{nil}
	for b = b[min(len(b), 6):]; len(b) >= 3; b = b[3:] {
		s := api.Patch{Kind: 1 + int(b[0])%9, Key: asKey(b[1])}
		switch s.Kind {
		case api.PPut:
			s.Parent = asKey(b[2])
			fallthrough
		case api.PShift:
			if k := b[2] >> 3; k > 0 {
				s.After = stamp(int(k&7), 0)
			}
		case api.PMake, api.PTag, api.PSet, api.PClear:
			s.Name = []string{"a", "b", "c", "d"}[b[2]&3]
		case api.PText:
			s.Value = string(b[2:3])
		}
		if b[0] >= 200 {
			out = append(out, nil)
		}
		out[len(out)-1] = append(out[len(out)-1], s)
	}
	return x, out
}

func FuzzAnySteps(f *testing.F) {
	f.Add([]byte{0, 0, 1, 2, 0, 1, 0, 1, 0, 3, 1, 2, 7, 1, 0})
	f.Add([]byte{200, 0, 0, 0, 0, 0, 4, 1, 16, 0, 2, 0, 1, 2, 0, 202, 6, 0, 3, 6, 1})
	f.Fuzz(func(t *testing.T, b []byte) {
		if len(b) > 200 {
			return
		}
		x, patches := asBytes(b)
		v := begin(t, x)
		for _, l := range patches {
			v.apply(t, l)
		}
	})
}
