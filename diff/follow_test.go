package diff

import (
	"math/rand"
	"slices"
	"testing"

	"topiary/api"
	"topiary/patch"
	"topiary/vtree"
)

// wantFollows asks of the patch from a to b what P18.3 and P18.5 to P18.7 say, without the model's patch.
func wantFollows(t testing.TB, a, b api.VNode, x two, l []api.Patch) {
	t.Helper()
	got, n, e := patch.Apply(a, l)
	if n != len(l) || e != api.OK || !vtree.Same(got, b) {
		t.Fatalf("from\n%sby %s: %d %d\n%swant\n%s", spelt(a), lines(l), n, e, spelt(got), spelt(b))
	}
	shifts := map[api.Stamp]int{}
	for _, p := range l {
		wantNeeded(t, x, p)
		if p.Kind == api.PShift {
			shifts[in(x.b, p.Key).above.Key]++
		}
	}
	for _, s := range x.b {
		var places []int
		for _, kid := range s.n.Kids {
			if x.hasStayed(kid.Key) {
				places = append(places, in(x.a, kid.Key).at)
			}
		}
		if want := len(places) - len(longest(places)); shifts[s.n.Key] != want {
			t.Fatalf("%s: %d shifts beneath %v, want %d", lines(l), shifts[s.n.Key], s.n.Key, want)
		}
	}
}

// wantNeeded asks why a node is touched by that step.
func wantNeeded(t testing.TB, x two, p api.Patch) {
	t.Helper()
	was, is := in(x.a, p.Key), in(x.b, p.Key)
	areBoth := was.n != nil && is.n != nil
	needed := false
	switch p.Kind {
	case api.PTake:
		needed = is.n == nil || is.above != nil && is.above.Key != was.above.Key
	case api.PDrop, api.PMake:
		needed = !areBoth
	case api.PPut:
		needed = !areBoth || is.above.Key != was.above.Key
	case api.PShift:
		needed = areBoth && is.above.Key == was.above.Key
	case api.PTag:
		needed = areBoth && was.n.Tag != is.n.Tag
	case api.PText:
		needed = is.n.Text != "" && !areBoth || areBoth && was.n.Text != is.n.Text
	case api.PSet, api.PClear:
		old, wasThere := values(was.n)[p.Name]
		value, isThere := values(is.n)[p.Name]
		needed = wasThere != isThere || old != value
	}
	if !needed {
		t.Fatalf("%s is not needed", lines([]api.Patch{p}))
	}
}

// P18.4
func wantNoStep(t testing.TB, x api.VNode) {
	t.Helper()
	for _, same := range []api.VNode{x, vtree.Copy(x)} {
		if l, e := Of(x, same); len(l) != 0 || e != api.OK {
			t.Fatalf("%d: %s of\n%s", e, lines(l), spelt(x))
		}
	}
}

// kidsOf tells all lists of trees of just these keys.
func kidsOf(keys []api.Stamp) [][]api.VNode {
	if len(keys) == 0 {
		return [][]api.VNode{nil}
	}
	var out [][]api.VNode
	for i, first := range keys {
		others := slices.Delete(slices.Clone(keys), i, i+1)
		for in := range 1 << len(others) {
			var beneath, behind []api.Stamp
			for k, o := range others {
				if in>>k&1 == 1 {
					beneath = append(beneath, o)
				} else {
					behind = append(behind, o)
				}
			}
			for _, kids := range kidsOf(beneath) {
				for _, rest := range kidsOf(behind) {
					out = append(out, append([]api.VNode{{Key: first, Tag: "p", Kids: kids}}, rest...))
				}
			}
		}
	}
	return out
}

// small tells all trees of the root and some of the keys 1.0 to n.0.
func small(n int) []api.VNode {
	var out []api.VNode
	for some := range 1 << n {
		var keys []api.Stamp
		for i := range n {
			if some>>i&1 == 1 {
				keys = append(keys, stamp(i+1, 0))
			}
		}
		for _, kids := range kidsOf(keys) {
			out = append(out, api.VNode{Tag: "root", Kids: kids})
		}
	}
	return out
}

// P18.1 to P18.7: from all trees to all trees.
func TestAllSmallTrees(t *testing.T) {
	all := small(3)
	if len(all) != 46 {
		t.Fatalf("%d trees", len(all))
	}
	for _, a := range all {
		wantNoStep(t, a)
		for _, b := range all {
			wantAsModel(t, a, b)
		}
	}
	all = small(4)
	if len(all) != 485 {
		t.Fatalf("%d trees", len(all))
	}
	// What the keys are does not count, so one tree of each shape is enough.
	for _, a := range all {
		if isNumbered(a) {
			for _, b := range all {
				wantAsModel(t, a, b)
			}
		}
	}
}

// isNumbered tells whether the keys are 1.0, 2.0 and so on, in the tree's order.
func isNumbered(t api.VNode) bool {
	for i, s := range laid(&t) {
		if s.n.Key.Count != i {
			return false
		}
	}
	return true
}

// fewest tells of each order of n siblings how many shifts lead there at least, each order as a text.
func fewest(n int) map[string]int {
	first := ""
	for i := range n {
		first += string(rune('a' + i))
	}
	out := map[string]int{first: 0}
	for work := []string{first}; len(work) > 0; work = work[1:] {
		order := work[0]
		for from := range n {
			rest := order[:from] + order[from+1:]
			for to := range n {
				next := rest[:to] + order[from:from+1] + rest[to:]
				if _, isThere := out[next]; !isThere {
					out[next] = out[order] + 1
					work = append(work, next)
				}
			}
		}
	}
	return out
}

// P18.7: no fewer shifts would do.
func TestNoFewerShiftsWouldDo(t *testing.T) {
	p := rand.New(rand.NewSource(187))
	for n := 1; n <= 6; n++ {
		for order, want := range fewest(n) {
			a, b := tree("root"), tree("root")
			for i := range n {
				a.Kids = append(a.Kids, api.VNode{Key: stamp(i+1, 0), Tag: "p"})
				b.Kids = append(b.Kids, api.VNode{Key: stamp(int(order[i]-'a')+1, 0), Tag: "p"})
			}
			// Others who go, and others who come, make no difference.
			for i := range p.Intn(3) {
				a.Kids = slices.Insert(a.Kids, p.Intn(len(a.Kids)+1), api.VNode{Key: stamp(20+i, 0), Tag: "p"})
				b.Kids = slices.Insert(b.Kids, p.Intn(len(b.Kids)+1), api.VNode{Key: stamp(30+i, 0), Tag: "p"})
			}
			if got, e := Shifts(a, b, root); got != want || e != api.OK {
				t.Fatalf("%s: %d %d, want %d", order, got, e, want)
			}
			wantAsModel(t, a, b)
		}
	}
}

func anyOf(p *rand.Rand, words ...string) string { return words[p.Intn(len(words))] }

// dressed tells n with some tag, text and attributes.
func dressed(p *rand.Rand, n api.VNode) api.VNode {
	n.Tag, n.Text, n.Attrs = anyOf(p, "p", "b", "li"), anyOf(p, "", "", "x", "y\n"), nil
	for _, name := range []string{"a", "a-b", "a0", "b"} {
		if p.Intn(3) == 0 {
			n.Attrs = append(n.Attrs, api.Attr{Name: name, Value: anyOf(p, "", "1", "2")})
		}
	}
	return n
}

// grown tells some tree of n nodes beneath top, their keys out of the first ones of all.
func grown(p *rand.Rand, top api.Stamp, n, all int) api.VNode {
	t := dressed(p, api.VNode{Key: top})
	for _, i := range p.Perm(all)[:n] {
		nodes := laid(&t)
		above := nodes[p.Intn(len(nodes))].n
		kid := dressed(p, api.VNode{Key: stamp(1+i/3, i%3)})
		above.Kids = slices.Insert(above.Kids, p.Intn(len(above.Kids)+1), kid)
	}
	return t
}

// edited tells t, some nodes of which have gone, come, gone elsewhere, or are dressed another way.
func edited(p *rand.Rand, t api.VNode, edits int) api.VNode {
	t = vtree.Copy(t)
	for i := range edits {
		nodes := laid(&t)
		s := nodes[p.Intn(len(nodes))]
		if p.Intn(3) == 0 {
			kids := s.n.Kids
			*s.n = dressed(p, *s.n)
			s.n.Kids = kids
			continue
		}
		kid := dressed(p, api.VNode{Key: stamp(500+i, 9)})
		if s.above != nil && p.Intn(4) > 0 {
			kid = *s.n
			s.above.Kids = slices.Delete(s.above.Kids, s.at, s.at+1)
			if p.Intn(4) == 0 {
				continue
			}
			nodes = laid(&t)
		}
		above := nodes[p.Intn(len(nodes))].n
		if s.above != nil && p.Intn(2) == 0 {
			above = in(nodes, s.above.Key).n
		}
		above.Kids = slices.Insert(above.Kids, p.Intn(len(above.Kids)+1), kid)
	}
	return t
}

// P18.1 to P18.7: seeded trees of all kinds.
func TestManyTreesAreAsTheModel(t *testing.T) {
	p := rand.New(rand.NewSource(18))
	kinds := map[int]int{}
	count := func(l []api.Patch) {
		for _, s := range l {
			kinds[s.Kind]++
		}
	}
	tops := []api.Stamp{root, root, trash, stamp(77, 7)}
	for range 2000 {
		top, all := tops[p.Intn(len(tops))], 1+p.Intn(20)
		a := grown(p, top, p.Intn(all+1), all)
		count(wantAsModel(t, a, grown(p, top, p.Intn(all+1), all)))
		count(wantAsModel(t, a, edited(p, a, p.Intn(8))))
		wantNoStep(t, a)
	}
	for kind := api.PTake; kind <= api.PClear; kind++ {
		if kinds[kind] < 300 {
			t.Errorf("%d steps of kind %d", kinds[kind], kind)
		}
	}
}

// Two patches lead from one tree over another one to a third, too.
func TestOneBehindTheOther(t *testing.T) {
	p := rand.New(rand.NewSource(3))
	for range 300 {
		all := 1 + p.Intn(15)
		a, b, c := grown(p, root, p.Intn(all), all), grown(p, root, p.Intn(all), all), grown(p, root, p.Intn(all), all)
		first, _ := Of(a, b)
		second, _ := Of(b, c)
		got, _, e := patch.Apply(a, slices.Concat(first, second))
		if e != api.OK || !vtree.Same(got, c) {
			t.Fatalf("%d", e)
		}
	}
}

// The limits

// names tells n rising names that begin so.
func names(first string, n int) []string {
	var out []string
	for i := range n {
		out = append(out, first+string([]byte{byte('a' + i/676), byte('a' + i/26%26), byte('a' + i%26)}))
	}
	return out
}

func full(first string, n int) api.VNode {
	t := tree("root")
	for _, name := range names(first, n) {
		t.Attrs = append(t.Attrs, api.Attr{Name: name, Value: first})
	}
	return t
}

func TestAsManyAttributesAsThereMayBe(t *testing.T) {
	const n = 4096
	a, b := full("a", n), full("b", n)
	wantNoStep(t, a)
	l, e := Of(a, b)
	if len(l) != 2*n || e != api.OK || l[0].Kind != api.PClear || l[n].Kind != api.PSet {
		t.Errorf("%d steps, %d", len(l), e)
	}
	if got, _, e := patch.Apply(a, l); e != api.OK || !vtree.Same(got, b) {
		t.Errorf("%d", e)
	}
	// The other way round the names' order, which the chapter's words ask for, has the sets ahead of the clears: a full node has no room for them then.
	l, e = Of(b, a)
	if len(l) != 2*n || e != api.OK || l[0].Kind != api.PSet || l[n].Kind != api.PClear {
		t.Errorf("%d steps, %d", len(l), e)
	}
	for i, s := range l[1:] {
		if l[i].Name >= s.Name {
			t.Fatalf("%s ahead of %s", l[i].Name, s.Name)
		}
	}
	if _, at, e := patch.Apply(b, l); at != 0 || e != api.ErrFull {
		t.Errorf("%d %d", at, e)
	}
	a.Attrs = append(a.Attrs, api.Attr{Name: "z"})
	wantRefused(t, a, b, api.ErrLong)
	wantRefused(t, b, a, api.ErrLong)
}

// wantLed wants a patch of so many steps, of so many kinds, that leads from a to b.
func wantLed(t *testing.T, a, b api.VNode, counts map[int]int) {
	t.Helper()
	l, e := Of(a, b)
	got := map[int]int{}
	for _, s := range l {
		got[s.Kind]++
	}
	for kind := api.PTake; kind <= api.PClear; kind++ {
		if got[kind] != counts[kind] || e != api.OK {
			t.Errorf("%d steps of kind %d, want %d; %d", got[kind], kind, counts[kind], e)
		}
	}
	if x, n, e := patch.Apply(a, l); n != len(l) || e != api.OK || !vtree.Same(x, b) {
		t.Errorf("%d of %d, %d", n, len(l), e)
	}
}

// renamed tells t with the replica 2 for 1 in all keys but the topmost one's.
func renamed(t api.VNode) api.VNode {
	for _, s := range laid(&t)[1:] {
		s.n.Key.Replica = 2
	}
	return t
}

func TestAsManyNodesAsThereMayBe(t *testing.T) {
	const n = 8192
	turned := wide(n)
	slices.Reverse(turned.Kids)
	wantLed(t, wide(n), turned, map[int]int{api.PShift: n - 2})
	if shifts, e := Shifts(wide(n), turned, root); shifts != n-2 || e != api.OK {
		t.Errorf("%d %d", shifts, e)
	}
	first := wide(n)
	first.Kids = append(first.Kids[n-2:n-1:n-1], first.Kids[:n-2]...)
	wantLed(t, wide(n), first, map[int]int{api.PShift: 1})
	// The node 1.1 stands beneath the root in both.
	wantLed(t, wide(n), chain(n), map[int]int{api.PTake: n - 2, api.PPut: n - 2})
	wantLed(t, chain(n), wide(n), map[int]int{api.PTake: n - 2, api.PPut: n - 2})
	// All go, and as many others come: there is room for them.
	wantLed(t, wide(n), renamed(chain(n)), map[int]int{api.PTake: n - 1, api.PDrop: n - 1, api.PMake: n - 1, api.PPut: n - 1})
	wantLed(t, chain(n), renamed(wide(n)), map[int]int{api.PTake: n - 1, api.PDrop: n - 1, api.PMake: n - 1, api.PPut: n - 1})
	wantNoStep(t, chain(n))
	wantNoStep(t, wide(n))
	if shifts, e := Shifts(chain(n), chain(n), stamp(n-1, 1)); shifts != 0 || e != api.OK {
		t.Errorf("%d %d", shifts, e)
	}
}

func TestShuffledSiblings(t *testing.T) {
	p := rand.New(rand.NewSource(4))
	const n = 2000
	b := wide(n)
	p.Shuffle(n-1, func(i, k int) { b.Kids[i], b.Kids[k] = b.Kids[k], b.Kids[i] })
	var places []int
	for _, kid := range b.Kids {
		places = append(places, kid.Key.Count)
	}
	wantLed(t, wide(n), b, map[int]int{api.PShift: n - 1 - len(longest(places))})
}

// The rules that hold everywhere

// roomy tells t in new memory, with something in the room behind each list's end.
func roomy(t api.VNode) api.VNode {
	attrs := append(slices.Clone(t.Attrs), api.Attr{Name: "behind"})
	var kids []api.VNode
	for _, kid := range t.Kids {
		kids = append(kids, roomy(kid))
	}
	kids = append(kids, api.VNode{Tag: "behind"})
	t.Attrs, t.Kids = attrs[:len(attrs)-1], kids[:len(kids)-1]
	return t
}

func wantBehind(t *testing.T, x api.VNode) {
	t.Helper()
	for _, s := range laid(&x) {
		attrs, kids := s.n.Attrs[:len(s.n.Attrs)+1], s.n.Kids[:len(s.n.Kids)+1]
		if attrs[len(s.n.Attrs)].Name != "behind" || kids[len(s.n.Kids)].Tag != "behind" {
			t.Fatalf("what lies behind a list of %v has changed", s.n.Key)
		}
	}
}

func TestNothingHandedInIsChanged(t *testing.T) {
	p := rand.New(rand.NewSource(5))
	for range 300 {
		a := roomy(grown(p, root, p.Intn(10), 12))
		b := roomy(edited(p, a, 6))
		wasA, wasB := spelt(a), spelt(b)
		Of(a, b)
		for _, s := range laid(&b) {
			Shifts(a, b, s.n.Key)
		}
		Shifts(a, b, stamp(999, 0))
		if spelt(a) != wasA || spelt(b) != wasB {
			t.Fatalf("was\n%sand\n%s", wasA, wasB)
		}
		wantBehind(t, a)
		wantBehind(t, b)
	}
}

// spoil writes over all fields of x.
func spoil(x *api.VNode) {
	for _, s := range laid(x) {
		for i := range s.n.Attrs {
			s.n.Attrs[i] = api.Attr{Name: "spoilt"}
		}
		s.n.Key, s.n.Tag, s.n.Text = stamp(6, 6), "spoilt", "spoilt"
	}
}

func TestAnswersAreNewMemory(t *testing.T) {
	p := rand.New(rand.NewSource(6))
	for range 300 {
		a := grown(p, root, p.Intn(10), 12)
		b := edited(p, a, 6)
		l, _ := Of(a, b)
		other, _ := Of(a, b)
		told := slices.Clone(l)
		other = other[:cap(other)]
		for i := range other {
			other[i] = api.Patch{Kind: 99}
		}
		if !slices.Equal(l, told) {
			t.Fatal("two answers share memory")
		}
		wantAsModel(t, a, b)
		spoil(&a)
		spoil(&b)
		if !slices.Equal(l, told) {
			t.Fatal("the answer has changed with what was handed in")
		}
	}
}

// A list without elements is nil's like.
func TestListsWithoutElements(t *testing.T) {
	a := tree("root(1.0)")
	b := tree("root(1.0)")
	b.Attrs, b.Kids[0].Attrs, b.Kids[0].Kids = []api.Attr{}, []api.Attr{}, []api.VNode{}
	wantPatch(t, a, b, "")
	wantPatch(t, b, a, "")
	b.Kids = []api.VNode{}
	wantPatch(t, a, b, "take 1.0, drop 1.0")
	wantPatch(t, b, a, "make 1.0 p, put 1.0 root -")
}

// One tree may be part of the other one's memory.
func TestTreesThatShareMemory(t *testing.T) {
	a := tree("root(1.0(2.0 3.0) 4.0)")
	b := a
	b.Kids = a.Kids[1:]
	wantPatch(t, a, b, "take 1.0, take 2.0, take 3.0, drop 1.0, drop 2.0, drop 3.0")
	b.Kids = a.Kids[0].Kids
	wantPatch(t, a, b, "take 1.0, take 2.0, take 3.0, take 4.0, drop 1.0, drop 4.0, put 2.0 root -, put 3.0 root 2.0")
}

// The answer does not hang on the order of a map.
func TestTheSameAgain(t *testing.T) {
	p := rand.New(rand.NewSource(7))
	a, b := grown(p, root, 60, 90), grown(p, root, 60, 90)
	first := wantAsModel(t, a, b)
	for range 50 {
		if l, e := Of(a, b); e != api.OK || !slices.Equal(l, first) {
			t.Fatalf("%s, and was %s", lines(l), lines(first))
		}
	}
}

// readTree tells the tree that some bytes are taken for, two for each node, and the bytes that are left.
func readTree(b []byte, top api.Stamp, n int) (api.VNode, []byte) {
	t := api.VNode{Key: top, Tag: "p"}
	for ; n > 0 && len(b) >= 2; n, b = n-1, b[2:] {
		nodes := laid(&t)
		above := nodes[int(b[0]>>4)%len(nodes)].n
		kid := api.VNode{Key: stamp(1+int(b[0]&15), 0), Tag: []string{"p", "b"}[b[1]&1], Text: []string{"", "x"}[b[1]>>1&1]}
		for i, name := range []string{"a", "b", "c"} {
			if v := b[1] >> (2 + 2*i) & 3; v > 0 {
				kid.Attrs = append(kid.Attrs, api.Attr{Name: name, Value: []string{"", "1", "2"}[v-1]})
			}
		}
		above.Kids = append(above.Kids, kid)
	}
	return t, b
}

func FuzzAnyTrees(f *testing.F) {
	f.Add([]byte{3, 1, 0, 2, 0, 3, 0, 3, 0, 1, 0, 2, 0})
	f.Add([]byte{2, 1, 0, 0x12, 0, 2, 0, 0x11, 0})
	f.Add([]byte{4, 1, 7, 0x12, 30, 0x13, 90, 4, 255, 4, 255, 0x12, 3, 0x21, 200, 5, 9})
	f.Fuzz(func(t *testing.T, b []byte) {
		if len(b) == 0 || len(b) > 60 {
			return
		}
		top := []api.Stamp{root, trash, stamp(40, 4)}[int(b[0]>>4)%3]
		a, rest := readTree(b[1:], top, int(b[0]&15))
		c, _ := readTree(rest, top, 16)
		// Where two nodes have one key both calls refuse, as the model does.
		wantAsModel(t, a, c)
	})
}
