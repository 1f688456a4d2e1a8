package vtree

import (
	"math/rand"
	"slices"
	"strconv"
	"strings"
	"testing"

	"topiary/api"
	"topiary/change"
	"topiary/fold"
	"topiary/ident"
)

func mustParse(t testing.TB, texts ...string) []api.Change {
	t.Helper()
	var out []api.Change
	for _, text := range texts {
		c, e := change.Parse(text)
		if e != api.OK {
			t.Fatalf("%q: %d", text, e)
		}
		out = append(out, c)
	}
	return out
}

func mustFold(t testing.TB, l []api.Change) api.Doc {
	t.Helper()
	d, e := fold.Of(l)
	if e != api.OK {
		t.Fatalf("fold.Of: %d", e)
	}
	return d
}

func mustOf(t testing.TB, d api.Doc) api.VNode {
	t.Helper()
	x, e := Of(d)
	if e != api.OK {
		t.Fatalf("Of: %d", e)
	}
	return x
}

// treeOf tells the tree that the changes of these texts come to.
func treeOf(t testing.TB, texts ...string) api.VNode {
	t.Helper()
	return mustOf(t, mustFold(t, mustParse(t, texts...)))
}

// The model: the chapters' words in their plainest form, without the layers below.

// plainKids: of the first row, of each slot, of each of Placed.
func plainKids(d api.Doc, parent api.Stamp) []api.Stamp {
	var out []api.Stamp
	for _, r := range d.Rows {
		if r.Parent != parent {
			continue
		}
		for _, s := range r.Slots {
			for _, p := range d.Placed {
				if p.Parent == parent && p.Slot == s {
					out = append(out, p.Node)
				}
			}
		}
		break
	}
	return out
}

func plainText(d api.Doc, node api.Stamp) string {
	i := slices.IndexFunc(d.Regs, func(r api.Reg) bool { return r.Node == node && r.Name == "" })
	if i < 0 || d.Regs[i].Gone {
		return ""
	}
	return d.Regs[i].Value
}

func plainAttrs(d api.Doc, node api.Stamp) []api.Attr {
	var out []api.Attr
	for _, r := range d.Regs {
		if r.Node == node && r.Name != "" && !r.Gone {
			out = append(out, api.Attr{Name: r.Name, Value: r.Value})
		}
	}
	return out
}

// plainOf tells the tree that d comes to, however many nodes it has.
func plainOf(d api.Doc) api.VNode {
	var order []api.Stamp
	var grow func(node api.Stamp, tag string) api.VNode
	grow = func(node api.Stamp, tag string) api.VNode {
		order = append(order, node)
		n := api.VNode{Key: node, Tag: tag, Text: plainText(d, node), Attrs: plainAttrs(d, node)}
		for _, kid := range plainKids(d, node) {
			i := slices.IndexFunc(d.Made, func(m api.Made) bool { return m.Node == kid })
			if i >= 0 && !slices.Contains(order, kid) {
				n.Kids = append(n.Kids, grow(kid, d.Made[i].Tag))
			}
		}
		return n
	}
	return grow(root, "root")
}

// docWith tells a Doc of these nodes beneath these parents, by turns, each made, in the order in which they are told.
func docWith(l ...string) api.Doc {
	var d api.Doc
	for i := 0; i < len(l); i += 2 {
		put(&d, key(l[i]), key(l[i+1]))
	}
	return d
}

// put lets a node be made, and stand beneath that parent as its last kid.
func put(d *api.Doc, node, parent api.Stamp) {
	slot := stamp(1000+len(d.Placed), 0)
	if !slices.ContainsFunc(d.Made, func(m api.Made) bool { return m.Node == node }) {
		d.Made = append(d.Made, api.Made{Node: node, Tag: "p"})
	}
	d.Placed = append(d.Placed, api.Placed{Node: node, Parent: parent, Slot: slot})
	for i := range d.Rows {
		if d.Rows[i].Parent == parent {
			d.Rows[i].Slots = append(d.Rows[i].Slots, slot)
			return
		}
	}
	d.Rows = append(d.Rows, api.Row{Parent: parent, Slots: []api.Stamp{slot}})
}

// shape tells a tree's keys alone, each one's kids in brackets behind it.
func shape(x api.VNode) string {
	var kids []string
	for _, kid := range x.Kids {
		kids = append(kids, shape(kid))
	}
	if kids == nil {
		return written(x.Key)
	}
	return written(x.Key) + "(" + strings.Join(kids, " ") + ")"
}

func wantShape(t testing.TB, d api.Doc, want string) {
	t.Helper()
	x := mustOf(t, d)
	if got := shape(x); got != want {
		t.Errorf("%s, want %s", got, want)
	}
	wantTree(t, x, plainOf(d))
}

// The examples

func TestExample(t *testing.T) {
	x := treeOf(t, "create 1.0 1 - root - p", `text 2.0 2 1 1.0 "hey"`, `set 3.0 3 2 1.0 id "x"`)
	wantSpelt(t, x, `root "root" ""`, `  1.0 "p" "hey" "id"="x"`)
	if Depth(x) != 2 || writtenAll(Keys(x)) != "root 1.0" {
		t.Errorf("Depth %d, Keys %v", Depth(x), Keys(x))
	}
}

// DOC.md's examples of the whole that are seen here.
func TestExamplesOfTheWhole(t *testing.T) {
	both := []string{"create 1.0 1 - root - p", "create 1.1 1 - root - b"}
	wantSpelt(t, treeOf(t, both[0]), `root "root" ""`, `  1.0 "p" ""`)
	wantSpelt(t, treeOf(t, both...), `root "root" ""`, `  1.1 "b" ""`, `  1.0 "p" ""`)
	// Two moves into one another: the lesser stamp counts.
	both = append(both, "move 2.0 2 1,1 1.0 1.1 -", "move 2.1 2 1,1 1.1 1.0 -")
	wantSpelt(t, treeOf(t, both...), `root "root" ""`, `  1.1 "b" ""`, `    1.0 "p" ""`)
	// Two set one attribute: the later stamp wins.
	sets := append(slices.Clone(both), `set 3.0 3 2,2 1.0 id "x"`, `set 3.1 3 2,2 1.0 id "y"`)
	wantSpelt(t, treeOf(t, sets...), `root "root" ""`, `  1.1 "b" ""`, `    1.0 "p" "" "id"="y"`)
	// What is in the trash is not seen, nor what is beneath it.
	wantSpelt(t, treeOf(t, append(sets, "move 4.0 4 3,3 1.1 trash -", `text 4.1 4 3,3 1.0 "a"`)...), `root "root" ""`)
}

// P15.2: Of

func TestOfNothing(t *testing.T) {
	for _, d := range []api.Doc{{}, {Made: []api.Made{}, Placed: []api.Placed{}, Rows: []api.Row{}, Regs: []api.Reg{}}} {
		wantSpelt(t, mustOf(t, d), `root "root" ""`)
	}
}

func TestTheRootHasRegisters(t *testing.T) {
	x := treeOf(t, `text 1.0 1 - root "all"`, `set 2.0 2 1 root lang "en"`, `set 3.0 3 2 root a-b ""`, "clear 4.0 4 3 root z")
	wantSpelt(t, x, `root "root" "all" "a-b"="" "lang"="en"`)
}

func TestOfTextsAndAttributes(t *testing.T) {
	x := treeOf(t,
		"create 1.0 1 - root - p", "create 2.0 2 1 root 1.0 b",
		`text 3.0 3 2 1.0 "a"`, `text 4.0 4 3 1.0 "b\00"`, `text 5.0 5 4 2.0 "c"`, `text 6.0 6 5 2.0 ""`,
		`set 7.0 7 6 1.0 id "x"`, `set 8.0 8 7 1.0 class "y"`, `set 9.0 9 8 2.0 id "z"`, "clear 10.0 10 9 1.0 id", `set 11.0 11 10 1.0 a "\ff"`,
		// Registers of nodes that nobody made are nobody's.
		`set 12.0 12 11 5.0 id "x"`, `text 13.0 13 12 5.0 "x"`)
	wantSpelt(t, x,
		`root "root" ""`,
		`  1.0 "p" "b\x00" "a"="\xff" "class"="y"`,
		`  2.0 "b" "" "id"="z"`)
}

// A Doc to which no changes come: its registers are taken as they stand.
func TestRegistersOfAnyDoc(t *testing.T) {
	d := docWith("1.0", "root", "2.0", "root", "3.0", "root")
	one, two, three := key("1.0"), key("2.0"), key("3.0")
	d.Regs = []api.Reg{
		{Node: three, Value: "lost", Gone: true}, // the first one counts, and is gone
		{Node: one, Name: "z", Value: "1"},
		{Node: two, Name: "id", Value: "other"},
		{Node: one, Name: "A b", Value: "2"}, // no name, and not sorted
		{Node: one, Value: "first"},
		{Node: one, Name: "z", Value: "3"}, // once more
		{Node: one, Value: "second"},
		{Node: one, Name: "y", Value: "gone", Gone: true},
		{Node: root, Name: "x"},
		{Node: stamp(9, 9), Name: "x", Value: "nobody's"},
		{Node: three, Value: "late"},
		{Node: one, Name: "y", Value: strings.Repeat("v", 300)},
	}
	wantSpelt(t, mustOf(t, d),
		`root "root" "" "x"=""`,
		`  1.0 "p" "first" "z"="1" "A b"="2" "z"="3" "y"="`+strings.Repeat("v", 300)+`"`,
		`  2.0 "p" "" "id"="other"`,
		`  3.0 "p" ""`)
	wantTree(t, mustOf(t, d), plainOf(d))
}

func TestTheFirstTagCounts(t *testing.T) {
	d := docWith("1.0", "root", "2.0", "1.0")
	d.Made = []api.Made{{Node: key("2.0"), Tag: "b"}, {Node: key("1.0"), Tag: ""}, {Node: key("1.0"), Tag: "i"}, {Node: key("2.0"), Tag: "u"}}
	// An empty tag is a tag, too.
	wantSpelt(t, mustOf(t, d), `root "root" ""`, `  1.0 "" ""`, `    2.0 "b" ""`)
}

// What was moved and never made is not seen, nor is what is beneath it.
func TestNodesThatWereNeverMade(t *testing.T) {
	d := docWith("1.0", "root", "2.0", "root", "3.0", "2.0", "4.0", "root")
	d.Made = slices.DeleteFunc(d.Made, func(m api.Made) bool { return m.Node == key("2.0") })
	wantShape(t, d, "root(1.0 4.0)")
	x := treeOf(t, "move 5.0 1 - 1.0 root -", "create 6.0 2 1 1.0 - p", "create 7.0 3 2 root - p")
	if got := shape(x); got != "root(7.0)" {
		t.Errorf("%s", got)
	}
}

func TestTheFirstRowCounts(t *testing.T) {
	d := docWith("1.0", "root", "2.0", "root")
	slots := d.Rows[0].Slots
	back := []api.Stamp{slots[1], slots[0]}
	for want, rows := range map[string][]api.Row{
		"root(1.0 2.0)": {{Slots: slots}, {Slots: back}},
		"root(2.0 1.0)": {{Slots: back}, {Slots: slots}},
		"root(2.0)":     {{Slots: slots[1:]}, {Slots: slots}},
		"root":          {{}, {Slots: slots}},
	} {
		d.Rows = append([]api.Row{{Parent: trash, Slots: slots}}, rows...)
		wantShape(t, d, want)
	}
	// A slot of one row is none of another one's.
	d.Rows = []api.Row{{Parent: key("1.0"), Slots: slots}}
	wantShape(t, d, "root")
}

// A node stands once, where it comes first in the tree's order.
func TestNodesThatStandTwice(t *testing.T) {
	for want, l := range map[string][]string{
		// Beneath a sibling ahead, and so not beside it, though it is told first.
		"root(1.0(2.0) 3.0)":      {"2.0", "1.0", "1.0", "root", "2.0", "root", "3.0", "root"},
		"root(1.0(4.0(2.0)))":     {"1.0", "root", "2.0", "root", "4.0", "1.0", "2.0", "4.0"},
		"root(2.0 1.0)":           {"2.0", "root", "1.0", "root", "2.0", "1.0"},
		"root(1.0(2.0) 3.0(4.0))": {"1.0", "root", "3.0", "root", "2.0", "1.0", "4.0", "3.0", "2.0", "3.0"},
		// Twice beneath one.
		"root(1.0 2.0)": {"1.0", "root", "2.0", "root", "1.0", "root", "2.0", "root"},
		// Rings.
		"root(1.0(2.0))":      {"1.0", "root", "2.0", "1.0", "1.0", "2.0"},
		"root(1.0)":           {"1.0", "root", "1.0", "1.0"},
		"root(1.0(2.0(3.0)))": {"1.0", "root", "2.0", "1.0", "3.0", "2.0", "1.0", "3.0", "2.0", "3.0"},
		"root":                {"1.0", "2.0", "2.0", "1.0"},
	} {
		wantShape(t, docWith(l...), want)
	}
}

// The root stands ahead of all, though it was made and stands somewhere; the trash is a node like others there.
func TestTheRootAndTheTrashOfAnyDoc(t *testing.T) {
	d := docWith("1.0", "root", "root", "1.0", "2.0", "1.0", "root", "root")
	wantShape(t, d, "root(1.0(2.0))")
	if x := mustOf(t, d); x.Tag != "root" {
		t.Errorf("%q", x.Tag)
	}
	d = docWith("trash", "root", "1.0", "trash")
	wantShape(t, d, "root(trash(1.0))")
	if e := Check(mustOf(t, d)); e != api.ErrForm {
		t.Errorf("%d", e)
	}
	wantShape(t, docWith("1.0", "trash", "2.0", "root"), "root(2.0)")
}

// manyDoc tells a Doc of n nodes beside the root, all beneath it, or each one beneath the one ahead.
func manyDoc(n int, isDeep bool) api.Doc {
	var d api.Doc
	var slots []api.Stamp
	for i := 1; i <= n; i++ {
		at, parent := stamp(i, 0), root
		if isDeep {
			parent = stamp(i-1, 0)
			d.Rows = append(d.Rows, api.Row{Parent: parent, Slots: []api.Stamp{at}})
		}
		slots = append(slots, at)
		d.Made = append(d.Made, api.Made{Node: at, Tag: "p"})
		d.Placed = append(d.Placed, api.Placed{Node: at, Parent: parent, Slot: at})
	}
	if !isDeep {
		d.Rows = []api.Row{{Slots: slots}}
	}
	return d
}

func TestOfMaxNodes(t *testing.T) {
	for _, isDeep := range []bool{false, true} {
		x := mustOf(t, manyDoc(api.MaxNodes-1, isDeep))
		if Count(x) != api.MaxNodes || Check(x) != api.OK {
			t.Errorf("%d: %d", Count(x), Check(x))
		}
		for _, n := range []int{api.MaxNodes, api.MaxNodes + 1, 1 << 16} {
			x, e := Of(manyDoc(n, isDeep))
			if e != api.ErrLong {
				t.Errorf("%d: %d", n, e)
			}
			wantZero(t, x)
		}
	}
	// The nodes of the tree count, not those of the Doc, nor how often they are told.
	d := manyDoc(api.MaxNodes-1, false)
	d.Rows[0].Slots = slices.Concat(d.Rows[0].Slots, d.Rows[0].Slots)
	d.Placed = slices.Concat(d.Placed, d.Placed)
	d.Made = slices.Concat(d.Made, d.Made)
	put(&d, stamp(9000, 1), trash)
	put(&d, stamp(9000, 2), stamp(9000, 1))
	put(&d, stamp(9000, 3), root)
	d.Made = d.Made[:len(d.Made)-1]
	if x := mustOf(t, d); Count(x) != api.MaxNodes {
		t.Errorf("%d", Count(x))
	}
	put(&d, stamp(9000, 4), stamp(7, 0))
	if x, e := Of(d); e != api.ErrLong || Count(x) != 1 {
		t.Errorf("%d: %d", Count(x), e)
	}
}

// A slot that is told many times, and a node that stands there many times: many times many kids, of which one is seen.
func TestOfManyTimesMany(t *testing.T) {
	const many = 1 << 17
	d := docWith("1.0", "root", "2.0", "1.0", "3.0", "root")
	for range many {
		d.Placed = append(d.Placed, d.Placed[0])
		d.Rows[0].Slots = append(d.Rows[0].Slots, d.Rows[0].Slots[0])
	}
	if got := shape(mustOf(t, d)); got != "root(1.0(2.0) 3.0)" {
		t.Errorf("%s", got)
	}
}

// The rules that hold everywhere

func copiedDoc(d api.Doc) api.Doc {
	out := api.Doc{Made: slices.Clone(d.Made), Placed: slices.Clone(d.Placed), Regs: slices.Clone(d.Regs)}
	for _, r := range d.Rows {
		out.Rows = append(out.Rows, api.Row{Parent: r.Parent, Slots: slices.Clone(r.Slots)})
	}
	return out
}

// busyDoc tells a Doc that says some things twice.
func busyDoc() api.Doc {
	d := docWith("1.0", "root", "2.0", "1.0", "3.0", "root", "2.0", "root", "1.0", "2.0")
	for _, node := range []string{"root", "1.0", "2.0"} {
		for _, name := range []string{"", "a", "b", "a"} {
			d.Regs = append(d.Regs, api.Reg{Node: key(node), Name: name, Value: name + node, Gone: name == "b"})
		}
	}
	d.Rows[0].Slots = append(d.Rows[0].Slots, d.Rows[0].Slots...)
	d.Rows = append(d.Rows, d.Rows[0])
	return d
}

func TestDocsAreNotChanged(t *testing.T) {
	d := busyDoc()
	behind := stamp(55, 5)
	for i := range d.Rows {
		n := len(d.Rows[i].Slots)
		d.Rows[i].Slots = append(slices.Clip(d.Rows[i].Slots), behind, behind)[:n]
	}
	d.Made = append(slices.Clip(d.Made), api.Made{Tag: "behind"})[:len(d.Made)]
	d.Placed = append(slices.Clip(d.Placed), api.Placed{Node: behind})[:len(d.Placed)]
	d.Regs = append(slices.Clip(d.Regs), api.Reg{Node: behind})[:len(d.Regs)]
	was := copiedDoc(d)
	x := mustOf(t, d)
	wantTree(t, x, plainOf(was))
	spoil(x)
	if !fold.Same(d, was) {
		t.Errorf("of\n%v\ncomes\n%v", was, d)
	}
	for _, r := range d.Rows {
		if l := r.Slots[:len(r.Slots)+2]; l[len(l)-1] != behind || l[len(l)-2] != behind {
			t.Errorf("behind the end: %v", l)
		}
	}
	if d.Made[:len(d.Made)+1][len(d.Made)].Tag != "behind" || d.Placed[:len(d.Placed)+1][len(d.Placed)].Node != behind || d.Regs[:len(d.Regs)+1][len(d.Regs)].Node != behind {
		t.Error("behind the ends")
	}
}

func TestTreesOfDocsAreNewMemory(t *testing.T) {
	d := busyDoc()
	wantApart(t, mustOf(t, d), mustOf(t, d), mustOf(t, mustFold(t, mustParse(t, "create 1.0 1 - root - p", `set 2.0 2 1 1.0 id "x"`))))
	wantTree(t, mustOf(t, d), plainOf(d))
	x := mustOf(t, d)
	want := spelt(x)
	d.Made[0].Tag, d.Regs[1].Value, d.Rows[0].Slots[0], d.Placed[0] = "spoilt", "spoilt", stamp(66, 6), api.Placed{}
	if spelt(x) != want {
		t.Error("the Doc is kept")
	}
}

// What follows

// player does what comes to its mind, of few stamps, names and nodes, so that much of it meets. Each change is right; they need not hang together.
type player struct {
	*rand.Rand
	counts, replicas int
}

func newPlayer(seed int64) player {
	return player{rand.New(rand.NewSource(seed)), 3 + int(seed%50), 1 + int(seed%4)}
}

// before tells a stamp ahead of that one; zero, if there is none.
func (p player) before(at api.Stamp) api.Stamp {
	if at.Count < 2 || p.Intn(4) == 0 {
		return root
	}
	return stamp(1+p.Intn(at.Count-1), p.Intn(p.replicas))
}

func (p player) change() api.Change {
	at := stamp(1+p.Intn(p.counts), p.Intn(p.replicas))
	c := api.Change{At: at, Seq: 1, Kind: 1 + p.Intn(5), Node: p.before(at)}
	if c.Kind == api.KMove && c.Node == root || p.Intn(2) == 0 {
		c.Kind = api.KCreate
	}
	name := []string{"id", "class", "a-b"}[p.Intn(3)]
	switch c.Kind {
	case api.KCreate:
		c.Node, c.Name = at, []string{"p", "b", "i"}[p.Intn(3)]
		c.Parent, c.After = p.before(at), p.before(at)
	case api.KMove:
		c.Parent, c.After = p.before(at), p.before(at)
		if c.Parent == c.Node || p.Intn(8) == 0 {
			c.Parent = trash
		}
	case api.KSet:
		c.Name, c.Value = name, strconv.Itoa(p.Intn(3))
	case api.KClear:
		c.Name = name
	case api.KText:
		c.Value = strconv.Itoa(p.Intn(3))
	}
	return c
}

// changes tells some of unlike stamps.
func (p player) changes(n int) []api.Change {
	var out []api.Change
	for range n {
		c := p.change()
		if !slices.ContainsFunc(out, func(o api.Change) bool { return o.At == c.At }) {
			out = append(out, c)
		}
	}
	return out
}

// P15.4
func TestTheTreeOfRightChangesIsRight(t *testing.T) {
	inAll := 0
	for seed := range int64(300) {
		p := newPlayer(seed)
		d := mustFold(t, p.changes(120))
		x := mustOf(t, d)
		if e := Check(x); e != api.OK {
			t.Fatalf("seed %d: %d of\n%s", seed, e, spelt(x))
		}
		wantTree(t, x, plainOf(d))
		want := []api.Stamp{root}
		for _, m := range d.Made {
			if fold.Live(d, m.Node) {
				want = append(want, m.Node)
			}
		}
		if got := Keys(x); len(got) != len(want) || !slices.Equal(ident.Sort(got), want) {
			t.Fatalf("seed %d: %v, want %v", seed, got, want)
		}
		inAll += len(want)
	}
	if inAll < 3000 {
		t.Errorf("few nodes: %d", inAll)
	}
}

// Whoever has the same changes sees the same tree.
func TestTheOrderSaysNothing(t *testing.T) {
	for seed := range int64(60) {
		p := newPlayer(seed)
		l := p.changes(80)
		want := mustOf(t, mustFold(t, l))
		for range 3 {
			p.Shuffle(len(l), func(i, k int) { l[i], l[k] = l[k], l[i] })
			if got := mustOf(t, mustFold(t, l)); !Same(got, want) {
				t.Fatalf("seed %d: got\n%swant\n%s", seed, spelt(got), spelt(want))
			}
		}
	}
}

// A log's worth: as many nodes, wide or deep, or as many attributes, as its changes can make.
func TestAFullLog(t *testing.T) {
	const many = api.MaxChanges
	for _, isDeep := range []bool{false, true} {
		var l []api.Change
		for i := 1; i <= many; i++ {
			c := api.Change{At: stamp(i, 0), Seq: 1, Kind: api.KCreate, Node: stamp(i, 0), Name: "p"}
			if isDeep {
				c.Parent = stamp(i-1, 0)
			} else {
				c.After = stamp(i-1, 0)
			}
			l = append(l, c)
		}
		x := mustOf(t, mustFold(t, l))
		keys := Keys(x)
		if Check(x) != api.OK || len(keys) != many+1 || !slices.IsSortedFunc(keys, ident.Compare) {
			t.Errorf("%d keys, %d", len(keys), Check(x))
		}
		if want := 2; !isDeep && Depth(x) != want || isDeep && Depth(x) != many+1 {
			t.Errorf("Depth %d", Depth(x))
		}
	}
	var l []api.Change
	for i := 1; i <= many; i++ {
		l = append(l, api.Change{At: stamp(i, 0), Seq: 1, Kind: api.KSet, Name: "a" + strconv.Itoa(many-i), Value: strings.Repeat("v", api.MaxValue)})
	}
	if x := mustOf(t, mustFold(t, l)); Check(x) != api.OK || len(x.Attrs) != many {
		t.Errorf("%d attributes, %d", len(x.Attrs), Check(x))
	}
}

// anyDoc tells a Doc to which no changes need come, of few stamps.
func anyDoc(b []byte) api.Doc {
	var d api.Doc
	near := func(b byte) api.Stamp { return stamp(int(b&3), int(b>>2)&1) }
	// Fewer still, so that slots of rows and of nodes meet.
	slot := func(b byte) api.Stamp { return stamp(int(b&3), 9) }
	for ; len(b) >= 3; b = b[3:] {
		x, y, z := near(b[0]), near(b[1]), slot(b[2])
		switch b[0] >> 4 & 3 {
		case 0:
			d.Made = append(d.Made, api.Made{Node: x, Tag: strings.Repeat("p", int(b[1]&3))})
		case 1:
			d.Placed = append(d.Placed, api.Placed{Node: x, Parent: y, Slot: z})
		case 2:
			d.Rows = append(d.Rows, api.Row{Parent: x, Slots: []api.Stamp{slot(b[1]), z, slot(b[1] >> 4), slot(b[2] >> 4)}})
		case 3:
			d.Regs = append(d.Regs, api.Reg{Node: x, Name: strings.Repeat("a", int(b[1]&3)), At: z, Value: strconv.Itoa(int(b[2] & 15)), Gone: b[2] > 190})
		}
	}
	return d
}

func wantOfAny(t testing.TB, d api.Doc) api.VNode {
	t.Helper()
	was := copiedDoc(d)
	x := mustOf(t, d)
	wantTree(t, x, plainOf(was))
	if !fold.Same(d, was) {
		t.Fatalf("of\n%v\ncomes\n%v", was, d)
	}
	keys := Keys(x)
	if len(ident.Sort(keys)) != len(keys) {
		t.Fatalf("twice: %v", keys)
	}
	return x
}

func TestManyDocsAreAsTheModel(t *testing.T) {
	inAll := 0
	for seed := range int64(2000) {
		p := rand.New(rand.NewSource(seed))
		b := make([]byte, 3*(1+p.Intn(200)))
		p.Read(b)
		inAll += Count(wantOfAny(t, anyDoc(b)))
	}
	if inAll < 6000 {
		t.Errorf("few nodes: %d", inAll)
	}
}

func FuzzAnyDoc(f *testing.F) {
	f.Add([]byte{0x01, 1, 0, 0x11, 0, 1, 0x20, 1, 1, 0x31, 1, 5, 0x31, 0, 7})
	f.Add([]byte{0x01, 1, 0, 0x02, 1, 0, 0x11, 2, 1, 0x12, 1, 2, 0x12, 0, 3, 0x20, 3, 3, 0x21, 2, 2, 0x22, 1, 1})
	f.Add([]byte{0x01, 1, 0, 0x02, 2, 0, 0x11, 0, 1, 0x12, 0, 2, 0x12, 1, 3, 0x20, 0x21, 0x21, 0x21, 3, 3})
	f.Fuzz(func(t *testing.T, b []byte) {
		if len(b) > 180 {
			return
		}
		wantAsked(t, wantOfAny(t, anyDoc(b)))
	})
}
