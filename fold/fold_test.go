package fold

import (
	"cmp"
	"math"
	"math/rand"
	"slices"
	"strconv"
	"strings"
	"testing"

	"topiary/api"
	"topiary/change"
	"topiary/ident"
)

var (
	root  = api.Stamp{}
	trash = api.Stamp{Replica: 1}
)

func stamp(count, replica int) api.Stamp { return api.Stamp{Count: count, Replica: replica} }

// read tells the stamps of which that is the text, one behind the other.
func read(t testing.TB, text string) []api.Stamp {
	t.Helper()
	var out []api.Stamp
	for _, word := range strings.Fields(text) {
		s, e := ident.Parse(word)
		if e != api.OK {
			t.Fatalf("%q: %d", word, e)
		}
		out = append(out, s)
	}
	return out
}

// written tells any stamps as a text.
func written(l []api.Stamp) string {
	var words []string
	for _, s := range l {
		word, e := ident.Text(s)
		if e != api.OK {
			word = "{" + strconv.Itoa(s.Count) + " " + strconv.Itoa(s.Replica) + "}"
		}
		words = append(words, word)
	}
	return strings.Join(words, " ")
}

func mustParse(t testing.TB, texts ...string) []api.Change {
	t.Helper()
	var out []api.Change
	for _, text := range texts {
		c, e := change.Parse(text)
		if e != api.OK {
			t.Fatalf("%q: %d", text, e)
		}
		out = append(out, c)
	}
	return out
}

func mustOf(t testing.TB, l []api.Change) api.Doc {
	t.Helper()
	d, e := Of(l)
	if e != api.OK {
		t.Fatalf("Of: %d", e)
	}
	return d
}

func mustAdd(t testing.TB, s *State, l ...api.Change) {
	t.Helper()
	for _, c := range l {
		if e := s.Add(c); e != api.OK {
			t.Fatalf("Add(%v): %d", c, e)
		}
	}
}

func stateOf(t testing.TB, l ...api.Change) *State {
	t.Helper()
	s := New()
	mustAdd(t, s, l...)
	return s
}

// The tests' own Same, which knows of no nil: of each field what it says, one behind the other.
func spelt(d api.Doc) string {
	var b strings.Builder
	word := func(l ...string) { b.WriteString(strings.Join(l, " ") + "\n") }
	for _, m := range d.Made {
		word("made", written([]api.Stamp{m.Node}), strconv.Quote(m.Tag))
	}
	for _, p := range d.Placed {
		word("placed", written([]api.Stamp{p.Node, p.Parent, p.Slot}))
	}
	for _, r := range d.Rows {
		word("row", written([]api.Stamp{r.Parent}), ":", written(r.Slots))
	}
	for _, r := range d.Regs {
		word("reg", written([]api.Stamp{r.Node}), strconv.Quote(r.Name), written([]api.Stamp{r.At}), strconv.Quote(r.Value), strconv.FormatBool(r.Gone))
	}
	return b.String()
}

func wantSpelt(t testing.TB, d api.Doc, want ...string) {
	t.Helper()
	text := ""
	if len(want) > 0 {
		text = strings.Join(want, "\n") + "\n"
	}
	if got := spelt(d); got != text {
		t.Errorf("got\n%swant\n%s", got, text)
	}
}

func wantDoc(t testing.TB, got, want api.Doc) {
	t.Helper()
	if spelt(got) != spelt(want) {
		t.Fatalf("got\n%swant\n%s", spelt(got), spelt(want))
	}
}

func wantKids(t testing.TB, d api.Doc, parent, want string) {
	t.Helper()
	if got := written(Kids(d, read(t, parent)[0])); got != want {
		t.Errorf("Kids of %s: %q, want %q", parent, got, want)
	}
}

func wantLive(t testing.TB, d api.Doc, node string, want bool) {
	t.Helper()
	if got := Live(d, read(t, node)[0]); got != want {
		t.Errorf("Live of %s: %v", node, got)
	}
}

// The model: the chapters' words in their plainest form, without the layers below.

type model []api.Change

func order(a, b api.Stamp) int {
	return cmp.Or(cmp.Compare(a.Count, b.Count), cmp.Compare(a.Replica, b.Replica))
}

func (m model) sorted() []api.Change {
	out := slices.Clone(m)
	slices.SortFunc(out, func(a, b api.Change) int { return order(a.At, b.At) })
	return out
}

func places(c api.Change) bool { return c.Kind == api.KCreate || c.Kind == api.KMove }

func (m model) doc() api.Doc {
	return api.Doc{Made: m.made(), Placed: m.placed(), Rows: m.rows(), Regs: m.regs()}
}

func (m model) made() []api.Made {
	var out []api.Made
	for _, c := range m.sorted() {
		if c.Kind == api.KCreate {
			out = append(out, api.Made{Node: c.At, Tag: c.Name})
		}
	}
	return out
}

// placed does one move after the other; none whose node its parent has above it.
func (m model) placed() []api.Placed {
	var out []api.Placed
	at := func(node api.Stamp) int {
		return slices.IndexFunc(out, func(p api.Placed) bool { return p.Node == node })
	}
	isAbove := func(node, of api.Stamp) bool {
		for i := at(of); i >= 0; i = at(of) {
			of = out[i].Parent
			if of == node {
				return true
			}
		}
		return false
	}
	for _, c := range m.sorted() {
		if !places(c) || isAbove(c.Node, c.Parent) {
			continue
		}
		p := api.Placed{Node: c.Node, Parent: c.Parent, Slot: c.At}
		if i := at(c.Node); i >= 0 {
			out[i] = p
		} else {
			out = append(out, p)
		}
	}
	slices.SortFunc(out, func(a, b api.Placed) int { return order(a.Node, b.Node) })
	return out
}

func (m model) rows() []api.Row {
	var out []api.Row
	for _, c := range m.sorted() {
		isNew := !slices.ContainsFunc(out, func(r api.Row) bool { return r.Parent == c.Parent })
		if places(c) && isNew {
			out = append(out, api.Row{Parent: c.Parent, Slots: m.slots(c.Parent)})
		}
	}
	slices.SortFunc(out, func(a, b api.Row) int { return order(a.Parent, b.Parent) })
	return out
}

// slots: from the last stamp on, each one followed by those under it.
func (m model) slots(parent api.Stamp) []api.Stamp {
	var own []api.Change
	for _, c := range m.sorted() {
		if places(c) && c.Parent == parent {
			own = append(own, c)
		}
	}
	under := func(c api.Change) api.Stamp {
		if slices.ContainsFunc(own, func(o api.Change) bool { return o.At == c.After }) {
			return c.After
		}
		return root
	}
	var out []api.Stamp
	var lay func(ahead api.Stamp)
	lay = func(ahead api.Stamp) {
		for _, c := range slices.Backward(own) {
			if under(c) == ahead {
				out = append(out, c.At)
				lay(c.At)
			}
		}
	}
	lay(root)
	return out
}

func (m model) regs() []api.Reg {
	var out []api.Reg
	for _, c := range m.sorted() {
		if places(c) {
			continue
		}
		// A later one takes the place of what is there.
		out = slices.DeleteFunc(out, func(r api.Reg) bool { return r.Node == c.Node && r.Name == c.Name })
		out = append(out, api.Reg{Node: c.Node, Name: c.Name, At: c.At, Value: c.Value, Gone: c.Kind == api.KClear})
	}
	slices.SortFunc(out, func(a, b api.Reg) int {
		return cmp.Or(order(a.Node, b.Node), cmp.Compare(a.Name, b.Name))
	})
	return out
}

// plainKids: of the first row, of each slot, of each of Placed.
func plainKids(d api.Doc, parent api.Stamp) []api.Stamp {
	var out []api.Stamp
	for _, r := range d.Rows {
		if r.Parent != parent {
			continue
		}
		for _, s := range r.Slots {
			for _, p := range d.Placed {
				if p.Parent == parent && p.Slot == s {
					out = append(out, p.Node)
				}
			}
		}
		break
	}
	return out
}

// plainLive goes up, with those that it came from.
func plainLive(d api.Doc, node api.Stamp, from ...api.Stamp) bool {
	if node == root {
		return true
	}
	if slices.Contains(from, node) || !slices.ContainsFunc(d.Made, func(m api.Made) bool { return m.Node == node }) {
		return false
	}
	for _, p := range d.Placed {
		if p.Node == node {
			return plainLive(d, p.Parent, append(from, node)...)
		}
	}
	return false
}

func plainTag(d api.Doc, node api.Stamp) (string, bool) {
	for i := range d.Made {
		if d.Made[i].Node == node {
			return d.Made[i].Tag, true
		}
	}
	return "", false
}

// wantAsked asks of any Doc all that can be asked of the nodes that it names, and of some others.
func wantAsked(t testing.TB, d api.Doc) {
	t.Helper()
	some := []api.Stamp{root, trash, stamp(77, 7), stamp(-1, 0), stamp(0, 2)}
	for _, m := range d.Made {
		some = append(some, m.Node)
	}
	for _, p := range d.Placed {
		some = append(some, p.Node, p.Parent, p.Slot)
	}
	for _, r := range d.Rows {
		some = append(append(some, r.Parent), r.Slots...)
	}
	was := spelt(d)
	for _, s := range ident.Sort(some) {
		if got, want := Kids(d, s), plainKids(d, s); !slices.Equal(got, want) {
			t.Fatalf("Kids(%v): %v, want %v of\n%s", s, got, want, was)
		}
		if got, want := Live(d, s), plainLive(d, s); got != want {
			t.Fatalf("Live(%v): %v of\n%s", s, got, was)
		}
		tag, ok := Tag(d, s)
		if want, isMade := plainTag(d, s); tag != want || ok != isMade {
			t.Fatalf("Tag(%v): %q %v of\n%s", s, tag, ok, was)
		}
	}
	if spelt(d) != was {
		t.Fatalf("of\n%shas come\n%s", was, spelt(d))
	}
}

func wantModel(t testing.TB, s *State, m model) {
	t.Helper()
	if s.Len() != len(m) {
		t.Fatalf("Len: %d, want %d", s.Len(), len(m))
	}
	wantDoc(t, s.Doc(), m.doc())
	wantAsked(t, s.Doc())
}

// The example

func TestExample(t *testing.T) {
	d := mustOf(t, mustParse(t, "create 1.0 1 - root - p", "create 2.1 1 1 1.0 - b", "move 3.0 2 1,1 1.0 trash -"))
	wantKids(t, d, "root", "")
	wantLive(t, d, "2.1", false)
	wantKids(t, d, "trash", "1.0")
}

// DOC.md's examples of the whole that are seen here.
func TestExamplesOfTheWhole(t *testing.T) {
	// Later stamps first.
	d := mustOf(t, mustParse(t, "create 1.0 1 - root - p", "create 1.1 1 - root - b"))
	wantKids(t, d, "root", "1.1 1.0")
	// Two moves into one another: the lesser stamp counts.
	both := mustParse(t, "create 1.0 1 - root - p", "create 1.1 1 - root - b", "move 2.0 2 1,1 1.0 1.1 -", "move 2.1 2 1,1 1.1 1.0 -")
	d = mustOf(t, both)
	wantKids(t, d, "root", "1.1")
	wantKids(t, d, "1.1", "1.0")
	wantKids(t, d, "1.0", "")
	// What is deleted keeps its text, and what is beneath it.
	d = mustOf(t, append(both, mustParse(t, "move 3.0 3 2,2 1.1 trash -", "text 3.1 3 2,2 1.0 \"hey\"")...))
	wantKids(t, d, "root", "")
	wantKids(t, d, "trash", "1.1")
	wantKids(t, d, "1.1", "1.0")
	wantLive(t, d, "1.0", false)
	wantLive(t, d, "1.1", false)
	if len(d.Regs) != 1 || d.Regs[0].Value != "hey" {
		t.Errorf("%v", d.Regs)
	}
}

// P14.1

func TestOfNothing(t *testing.T) {
	for _, l := range [][]api.Change{nil, {}} {
		d, e := Of(l)
		if e != api.OK {
			t.Errorf("%d", e)
		}
		wantSpelt(t, d)
	}
}

// ofAllKinds are changes of the five kinds, one behind the other.
func ofAllKinds(t testing.TB) []api.Change {
	return mustParse(t,
		"create 1.0 1 - root - p",
		"create 2.1 1 1 1.0 - b",
		"create 3.0 2 1 root 1.0 i",
		"set 4.0 3 2,1 2.1 id \"x\"",
		"set 4.1 2 2,1 2.1 id \"y\"",
		"text 5.0 4 3,1 1.0 \"hey\"",
		"clear 6.0 5 4,2 2.1 class",
		"move 7.1 3 5,2 2.1 root 3.0",
		"move 8.0 6 5,3 1.0 2.1 -",
		"move 9.1 4 6,3 2.1 1.0 -",
		"text 9.2 1 6,4 root \"all\"",
		"set 10.0 7 6,4 root a-b \"\"",
		"move 11.0 8 7,4 3.0 trash -",
	)
}

func TestOfAllKinds(t *testing.T) {
	d := mustOf(t, ofAllKinds(t))
	wantSpelt(t, d,
		"made 1.0 \"p\"",
		"made 2.1 \"b\"",
		"made 3.0 \"i\"",
		"placed 1.0 2.1 8.0",
		"placed 2.1 root 7.1",
		"placed 3.0 trash 11.0",
		"row root : 1.0 3.0 7.1",
		"row trash : 11.0",
		"row 1.0 : 9.1 2.1",
		"row 2.1 : 8.0",
		"reg root \"\" 9.2 \"all\" false",
		"reg root \"a-b\" 10.0 \"\" false",
		"reg 1.0 \"\" 5.0 \"hey\" false",
		"reg 2.1 \"class\" 6.0 \"\" true",
		"reg 2.1 \"id\" 4.1 \"y\" false",
	)
	wantKids(t, d, "root", "2.1")
	wantKids(t, d, "2.1", "1.0")
	wantKids(t, d, "1.0", "")
	wantKids(t, d, "3.0", "")
	wantKids(t, d, "trash", "3.0")
	wantLive(t, d, "1.0", true)
	wantLive(t, d, "2.1", true)
	wantLive(t, d, "3.0", false)
}

// Of each kind alone: what it makes, and that it makes nothing else.
func TestOfOne(t *testing.T) {
	for text, want := range map[string][]string{
		"create 3.1 1 2 root - p":               {"made 3.1 \"p\"", "placed 3.1 root 3.1", "row root : 3.1"},
		"create 3.1 1 - trash 2.0 a-1":          {"made 3.1 \"a-1\"", "placed 3.1 trash 3.1", "row trash : 3.1"},
		"move 3.1 1 2 1.0 2.0 -":                {"placed 1.0 2.0 3.1", "row 2.0 : 3.1"},
		"move 1099511627776.63 1 - 1.0 trash -": {"placed 1.0 trash 1099511627776.63", "row trash : 1099511627776.63"},
		"set 3.1 1 2 2.0 class \"a\\00\\ff\"":   {"reg 2.0 \"class\" 3.1 \"a\\x00\\xff\" false"},
		"set 3.1 1 2 root class \"\"":           {"reg root \"class\" 3.1 \"\" false"},
		"clear 3.1 1 2 2.0 class":               {"reg 2.0 \"class\" 3.1 \"\" true"},
		"clear 3.1 1 2 root class":              {"reg root \"class\" 3.1 \"\" true"},
		"text 3.1 1 2 2.0 \"a b\"":              {"reg 2.0 \"\" 3.1 \"a b\" false"},
		"text 3.1 1 2 root \"\"":                {"reg root \"\" 3.1 \"\" false"},
	} {
		d := mustOf(t, mustParse(t, text))
		wantSpelt(t, d, want...)
		wantAsked(t, d)
		wantDoc(t, stateOf(t, mustParse(t, text)...).Doc(), d)
	}
}

// A slot is in its row, whether its move counts or not, and whether its node has gone on or not.
func TestRowsHaveAllSlots(t *testing.T) {
	d := mustOf(t, mustParse(t,
		"create 1.0 1 - root - p", "create 2.0 2 1 1.0 - b",
		"move 3.0 3 2 1.0 2.0 -", // a ring
		"move 4.0 4 3 2.0 root 1.0", "move 5.0 5 4 2.0 root -", "move 6.0 6 5 2.0 root 5.0"))
	wantSpelt(t, d,
		"made 1.0 \"p\"", "made 2.0 \"b\"",
		"placed 1.0 root 1.0", "placed 2.0 root 6.0",
		"row root : 5.0 6.0 1.0 4.0", "row 1.0 : 2.0", "row 2.0 : 3.0")
	wantKids(t, d, "root", "2.0 1.0")
}

// A slot that was put behind one of another row, or behind one that is nowhere, stands under the front.
func TestAfterOfAnotherRow(t *testing.T) {
	d := mustOf(t, mustParse(t,
		"create 1.0 1 - root - p", "create 2.0 2 1 1.0 - b", "create 3.0 3 2 root 2.0 i", "create 4.0 4 3 root 2.5 u", "create 5.0 5 4 1.0 2.0 s"))
	wantSpelt(t, d,
		"made 1.0 \"p\"", "made 2.0 \"b\"", "made 3.0 \"i\"", "made 4.0 \"u\"", "made 5.0 \"s\"",
		"placed 1.0 root 1.0", "placed 2.0 1.0 2.0", "placed 3.0 root 3.0", "placed 4.0 root 4.0", "placed 5.0 1.0 5.0",
		"row root : 4.0 3.0 1.0", "row 1.0 : 2.0 5.0")
}

// A node that is moved, or set, and was never made, nor its parent.
func TestNodesThatWereNeverMade(t *testing.T) {
	d := mustOf(t, mustParse(t, "move 5.0 1 - 1.0 2.0 -", "set 6.0 1 - 3.0 id \"x\"", "move 7.0 1 - 4.0 root -", "create 8.0 1 - 4.0 - p", "create 9.0 1 - 2.5 - p"))
	wantSpelt(t, d,
		"made 8.0 \"p\"", "made 9.0 \"p\"",
		"placed 1.0 2.0 5.0", "placed 4.0 root 7.0", "placed 8.0 4.0 8.0", "placed 9.0 2.5 9.0",
		"row root : 7.0", "row 2.0 : 5.0", "row 2.5 : 9.0", "row 4.0 : 8.0",
		"reg 3.0 \"id\" 6.0 \"x\" false")
	wantKids(t, d, "root", "4.0")
	for _, node := range []string{"1.0", "2.0", "3.0", "4.0", "8.0", "9.0"} {
		wantLive(t, d, node, false)
	}
}

// A node's create may be known behind its move, and then counts in the order of its stamp.
func TestMoveAheadOfCreate(t *testing.T) {
	l := mustParse(t, "move 5.0 2 1 1.0 trash -", "create 1.0 1 - root - p")
	wantKids(t, mustOf(t, l), "root", "")
	wantKids(t, mustOf(t, l), "trash", "1.0")
}

func TestOneThatIsThereTwiceCountsOnce(t *testing.T) {
	l := ofAllKinds(t)
	want := mustOf(t, l)
	wantDoc(t, mustOf(t, slices.Concat(l, l, l[3:7])), want)
	for i := range l {
		wantDoc(t, mustOf(t, slices.Insert(slices.Clone(l), i, l[i])), want)
	}
	// Without Deps is without Deps.
	c := l[0]
	c.Deps = []int{}
	wantDoc(t, mustOf(t, slices.Concat(l, []api.Change{c}, l)), want)
}

// wrong are changes that are not right, and what Check says of them.
func wrong(t testing.TB) map[api.Errno][]api.Change {
	good := mustParse(t, "create 3.1 1 2 root - p", "move 3.1 1 2 1.0 2.0 1.0", "set 3.1 1 2 2.0 id \"x\"", "clear 3.1 1 2 2.0 id", "text 3.1 1 2 2.0 \"x\"")
	turned := func(i int, turn func(c *api.Change)) api.Change {
		c := change.Copy(good[i])
		turn(&c)
		return c
	}
	out := map[api.Errno][]api.Change{
		api.ErrRange: {
			{}, turned(0, func(c *api.Change) { c.Kind = 0 }), turned(0, func(c *api.Change) { c.Kind = 6 }), turned(0, func(c *api.Change) { c.Kind = math.MinInt }),
			turned(2, func(c *api.Change) { c.Seq = 0 }), turned(2, func(c *api.Change) { c.Seq = 4 }), turned(2, func(c *api.Change) { c.Deps = []int{-1} }),
		},
		api.ErrForm: {
			turned(0, func(c *api.Change) { c.At, c.Node = root, root }), turned(0, func(c *api.Change) { c.At.Replica, c.Node.Replica = 64, 64 }),
			turned(0, func(c *api.Change) { c.Node = stamp(2, 0) }), turned(1, func(c *api.Change) { c.Node = root }), turned(1, func(c *api.Change) { c.Parent = c.Node }),
			turned(1, func(c *api.Change) { c.After = c.At }), turned(1, func(c *api.Change) { c.Parent = stamp(0, 2) }), turned(2, func(c *api.Change) { c.Node = trash }),
			turned(2, func(c *api.Change) { c.Deps = []int{2, 0} }), turned(2, func(c *api.Change) { c.Parent = trash }), turned(3, func(c *api.Change) { c.Value = "x" }),
			turned(4, func(c *api.Change) { c.Node = stamp(3, 1) }),
		},
		api.ErrName: {
			turned(0, func(c *api.Change) { c.Name = "" }), turned(2, func(c *api.Change) { c.Name = "A" }), turned(3, func(c *api.Change) { c.Name = "" }),
			turned(1, func(c *api.Change) { c.Name = "p" }), turned(4, func(c *api.Change) { c.Name = "p" }),
		},
		api.ErrLong: {
			turned(2, func(c *api.Change) { c.Value = strings.Repeat("x", api.MaxValue+1) }), turned(4, func(c *api.Change) { c.Value = strings.Repeat("x", api.MaxValue+1) }),
			turned(2, func(c *api.Change) { c.Deps = make([]int, api.MaxReplicas+1) }),
		},
	}
	for e, l := range out {
		for _, c := range l {
			if got := change.Check(c); got != e {
				t.Fatalf("%v: %d, want %d", c, got, e)
			}
		}
	}
	return out
}

// wantErr wants that error of l, and an empty Doc beside it.
func wantErr(t testing.TB, l []api.Change, want api.Errno) {
	t.Helper()
	d, e := Of(l)
	if e != want {
		t.Errorf("Of(%v): %d, want %d", l, e, want)
	}
	wantSpelt(t, d)
}

func TestOfRefusesWhatIsNotRight(t *testing.T) {
	good := ofAllKinds(t)
	for e, l := range wrong(t) {
		for _, c := range l {
			for _, i := range []int{0, 1, 6, len(good)} {
				wantErr(t, slices.Insert(slices.Clone(good), i, c), e)
			}
			wantErr(t, []api.Change{c}, e)
			wantErr(t, []api.Change{c, c}, e)
		}
	}
}

// others are changes of c's stamp that are right, and not the same.
func others(t testing.TB, c api.Change) []api.Change {
	t.Helper()
	var out []api.Change
	add := func(turn func(c *api.Change)) {
		o := change.Copy(c)
		turn(&o)
		if change.Check(o) == api.OK && !change.Same(o, c) {
			out = append(out, o)
		}
	}
	add(func(c *api.Change) { c.Seq, c.Deps = 1, nil })
	add(func(c *api.Change) { c.Deps = append(c.Deps, 0, 0, 0, 7) })
	add(func(c *api.Change) { c.Parent = trash })
	add(func(c *api.Change) { c.Parent = stamp(1, 7) })
	add(func(c *api.Change) { c.After = stamp(1, 9) })
	add(func(c *api.Change) { c.Node = stamp(1, 3) })
	add(func(c *api.Change) { c.Name += "x" })
	add(func(c *api.Change) { c.Value += "x" })
	add(func(c *api.Change) { c.Kind, c.Name = api.KText, "" })
	add(func(c *api.Change) { c.Kind, c.Name = api.KSet, "x" })
	add(func(c *api.Change) { c.Kind, c.Name, c.Value = api.KClear, "x", "" })
	add(func(c *api.Change) {
		*c = api.Change{At: c.At, Seq: c.Seq, Deps: c.Deps, Kind: api.KCreate, Node: c.At, Name: "q"}
	})
	if len(out) < 4 {
		t.Fatalf("%v: %d others", c, len(out))
	}
	return out
}

func TestOfRefusesTwoOfOneStamp(t *testing.T) {
	good := ofAllKinds(t)
	for i, c := range good {
		for _, o := range others(t, c) {
			for _, k := range []int{0, i, i + 1, len(good)} {
				wantErr(t, slices.Insert(slices.Clone(good), k, o), api.ErrState)
			}
			wantErr(t, []api.Change{c, o}, api.ErrState)
			wantErr(t, []api.Change{c, c, o}, api.ErrState)
			wantErr(t, []api.Change{o, o, c, o}, api.ErrState)
			mustOf(t, []api.Change{o, o})
		}
	}
}

// Of several faults the one counts whose change is the first; of one change what Check says.
func TestTheFirstFaultCounts(t *testing.T) {
	good := ofAllKinds(t)
	o := others(t, good[2])[0]
	for e, l := range wrong(t) {
		for _, c := range l {
			wantErr(t, append(slices.Clone(good), o, c), api.ErrState)
			wantErr(t, append(slices.Clone(good), c, o), e)
			for other, more := range wrong(t) {
				wantErr(t, []api.Change{good[0], c, more[0]}, e)
				wantErr(t, []api.Change{good[0], more[0], c}, other)
			}
		}
	}
	// It has another one's stamp, and is not right.
	c := change.Copy(good[3])
	c.Name = "A"
	wantErr(t, append(slices.Clone(good), c), api.ErrName)
}

// P14.2

func made(node api.Stamp, tag string) api.Made { return api.Made{Node: node, Tag: tag} }

func row(parent api.Stamp, slots ...api.Stamp) api.Row {
	return api.Row{Parent: parent, Slots: slots}
}

// stand tells of each three stamps a node, its parent and its slot.
func stand(l ...api.Stamp) []api.Placed {
	var out []api.Placed
	for i := 0; i+2 < len(l); i += 3 {
		out = append(out, api.Placed{Node: l[i], Parent: l[i+1], Slot: l[i+2]})
	}
	return out
}

// oddDoc is one to which no changes come.
func oddDoc() api.Doc {
	a, b, c, d := stamp(1, 0), stamp(2, 0), stamp(3, 0), stamp(-4, 99)
	return api.Doc{
		Made:   []api.Made{made(b, ""), made(a, "p"), made(a, "q"), made(b, "r"), made(d, "A B"), made(root, "top")},
		Placed: stand(b, a, d, a, root, c, c, a, d, a, b, d, b, root, c, d, a, c, b, a, c),
		Rows:   []api.Row{row(b), row(a, c, d, c, a), row(a, d), row(b, d), row(root, c, c), row(d)},
		Regs:   []api.Reg{{Node: a, Name: "A", At: d, Value: "x", Gone: true}, {}},
	}
}

func TestKids(t *testing.T) {
	d := oddDoc()
	for parent, want := range map[api.Stamp]string{
		// The first row counts; a slot that is there twice tells its nodes twice, one with many all of them, in Placed's order.
		stamp(1, 0):   "{-4 99} 2.0 2.0 3.0 {-4 99} 2.0",
		stamp(2, 0):   "",
		root:          "1.0 2.0 1.0 2.0",
		stamp(-4, 99): "",
		stamp(3, 0):   "",
		trash:         "",
	} {
		if got := written(Kids(d, parent)); got != want {
			t.Errorf("Kids(%v): %q, want %q", parent, got, want)
		}
	}
	wantAsked(t, d)
	wantAsked(t, api.Doc{})
	// Without a row nobody is beneath it; without Placed neither.
	if got := Kids(api.Doc{Placed: d.Placed}, root); len(got) != 0 {
		t.Errorf("%v", got)
	}
	if got := Kids(api.Doc{Rows: d.Rows}, root); len(got) != 0 {
		t.Errorf("%v", got)
	}
}

func TestTag(t *testing.T) {
	d := oddDoc()
	for _, c := range []struct {
		node api.Stamp
		tag  string
		ok   bool
	}{
		{stamp(1, 0), "p", true}, {stamp(2, 0), "", true}, {stamp(-4, 99), "A B", true}, {root, "top", true},
		{stamp(3, 0), "", false}, {trash, "", false}, {stamp(math.MaxInt, math.MinInt), "", false},
	} {
		if tag, ok := Tag(d, c.node); tag != c.tag || ok != c.ok {
			t.Errorf("Tag(%v): %q %v", c.node, tag, ok)
		}
	}
	if tag, ok := Tag(mustOf(t, ofAllKinds(t)), root); tag != "" || ok {
		t.Errorf("the root's: %q %v", tag, ok)
	}
}

func TestLive(t *testing.T) {
	a, b, c, d, e := stamp(1, 0), stamp(2, 0), stamp(3, 0), stamp(4, 0), stamp(math.MinInt, math.MaxInt)
	all := []api.Made{made(a, "p"), made(b, ""), made(d, "p"), made(e, "p"), made(d, "q")}
	for name, x := range map[string]struct {
		made   []api.Made
		placed []api.Placed
		live   []api.Stamp
	}{
		"nothing":                {nil, nil, nil},
		"made, placed nowhere":   {all, nil, nil},
		"placed, not made":       {nil, stand(a, root, a), nil},
		"beneath the root":       {all, stand(a, root, a), []api.Stamp{a}},
		"beneath one another":    {all, stand(a, b, a, b, d, a, d, e, a, e, root, a), []api.Stamp{a, b, d, e}},
		"one in between unmade":  {all, stand(a, c, a, c, root, a, b, a, a), nil},
		"one in between nowhere": {all, stand(a, b, a, d, root, a), []api.Stamp{d}},
		"beneath itself":         {all, stand(a, a, a), nil},
		"a ring":                 {all, stand(a, b, a, b, d, a, d, a, a, e, a, a), nil},
		"the first one counts":   {all, stand(a, b, a, b, root, a, a, a, a, b, a, a), []api.Stamp{a, b}},
		"the others do not":      {all, stand(a, b, a, b, a, a, a, root, a, b, root, a), nil},
		"the trash":              {all, stand(a, trash, a, b, a, a), nil},
		"a trash that was made":  {append(slices.Clone(all), api.Made{Node: trash}), stand(trash, root, a, a, trash, a), []api.Stamp{a, trash}},
		"a root in a ring":       {append(slices.Clone(all), api.Made{Node: root}), stand(root, a, a, a, root, a, b, b, a), []api.Stamp{a}},
	} {
		doc := api.Doc{Made: x.made, Placed: x.placed}
		for _, node := range []api.Stamp{root, trash, a, b, c, d, e} {
			want := node == root || slices.Contains(x.live, node)
			if got := Live(doc, node); got != want {
				t.Errorf("%s: Live(%v): %v", name, node, got)
			}
		}
		wantAsked(t, doc)
	}
}

// Whoever goes up does so in as many steps as there are nodes, not more.
func TestLiveOfADeepOne(t *testing.T) {
	const deep = 1 << 16
	var d api.Doc
	for i := range deep {
		node := stamp(i+1, 0)
		d.Made = append(d.Made, api.Made{Node: node})
		d.Placed = append(d.Placed, api.Placed{Node: node, Parent: stamp(i, 0), Slot: node})
	}
	if !Live(d, stamp(deep, 0)) || Live(d, stamp(deep+1, 0)) {
		t.Error("beneath one another")
	}
	d.Placed[0].Parent = stamp(deep, 0)
	if Live(d, stamp(deep, 0)) || Live(d, stamp(1, 0)) || !Live(d, root) {
		t.Error("a ring")
	}
}

func copied(d api.Doc) api.Doc {
	out := api.Doc{Made: slices.Clone(d.Made), Placed: slices.Clone(d.Placed), Rows: slices.Clone(d.Rows), Regs: slices.Clone(d.Regs)}
	for i := range out.Rows {
		out.Rows[i].Slots = slices.Clone(out.Rows[i].Slots)
	}
	return out
}

func wantSame(t testing.TB, a, b api.Doc, want bool) {
	t.Helper()
	if Same(a, b) != want || Same(b, a) != want {
		t.Errorf("Same: %v, %v, want %v of\n%sand\n%s", Same(a, b), Same(b, a), want, spelt(a), spelt(b))
	}
}

func TestSame(t *testing.T) {
	docs := []api.Doc{{}, oddDoc(), mustOf(t, ofAllKinds(t)), {Rows: []api.Row{{}}}, {Regs: []api.Reg{{}}}, {Made: []api.Made{{}}}, {Placed: []api.Placed{{}}}, {Rows: []api.Row{{}, {}}}}
	for i, a := range docs {
		for k, b := range docs {
			wantSame(t, a, copied(b), i == k)
		}
	}
}

// A list without elements is nil's like.
func TestSameOfEmptyLists(t *testing.T) {
	empty := api.Doc{Made: []api.Made{}, Placed: []api.Placed{}, Rows: []api.Row{}, Regs: []api.Reg{}}
	wantSame(t, api.Doc{}, empty, true)
	wantSame(t, api.Doc{Rows: []api.Row{{Parent: trash}}}, api.Doc{Rows: []api.Row{{Parent: trash, Slots: []api.Stamp{}}}}, true)
	// What lies behind a list's end is none of it.
	d := oddDoc()
	wantSame(t, d, api.Doc{Made: append(slices.Clone(d.Made), api.Made{})[:len(d.Made)], Placed: d.Placed, Rows: d.Rows, Regs: d.Regs}, true)
}

// Each field is looked at, of each element.
func TestSameOfEachField(t *testing.T) {
	for _, d := range []api.Doc{oddDoc(), mustOf(t, ofAllKinds(t))} {
		for i, turn := range turns(d) {
			o := copied(d)
			turn(&o)
			if spelt(o) == spelt(d) {
				t.Fatalf("turn %d changes nothing", i)
			}
			wantSame(t, d, o, false)
		}
	}
}

// turns are ways of making another Doc of d.
func turns(d api.Doc) []func(d *api.Doc) {
	out := []func(d *api.Doc){
		func(d *api.Doc) { d.Made = d.Made[:len(d.Made)-1] },
		func(d *api.Doc) { d.Placed = d.Placed[1:] },
		func(d *api.Doc) { d.Rows = d.Rows[1:] },
		func(d *api.Doc) { d.Regs = nil },
		func(d *api.Doc) { d.Rows = append(d.Rows, api.Row{}) },
		func(d *api.Doc) { slices.Reverse(d.Made) },
		func(d *api.Doc) { slices.Reverse(d.Placed) },
		func(d *api.Doc) { slices.Reverse(d.Rows) },
		func(d *api.Doc) { slices.Reverse(d.Regs) },
	}
	for i := range d.Made {
		out = append(out, func(d *api.Doc) { d.Made[i].Node.Count++ }, func(d *api.Doc) { d.Made[i].Node.Replica++ }, func(d *api.Doc) { d.Made[i].Tag += "x" })
	}
	for i := range d.Placed {
		out = append(out, func(d *api.Doc) { d.Placed[i].Node.Replica++ }, func(d *api.Doc) { d.Placed[i].Parent.Count++ }, func(d *api.Doc) { d.Placed[i].Slot.Replica-- })
	}
	for i := range d.Rows {
		out = append(out, func(d *api.Doc) { d.Rows[i].Parent.Replica++ }, func(d *api.Doc) { d.Rows[i].Slots = append(d.Rows[i].Slots, root) })
		for k := range d.Rows[i].Slots {
			out = append(out, func(d *api.Doc) { d.Rows[i].Slots[k].Count++ })
		}
	}
	for i := range d.Regs {
		out = append(out, func(d *api.Doc) { d.Regs[i].Node.Count++ }, func(d *api.Doc) { d.Regs[i].Name += "x" }, func(d *api.Doc) { d.Regs[i].At.Replica++ },
			func(d *api.Doc) { d.Regs[i].Value += "x" }, func(d *api.Doc) { d.Regs[i].Gone = !d.Regs[i].Gone })
	}
	return out
}

// P14.3

func TestNewIsOfNoChanges(t *testing.T) {
	s, other := New(), New()
	if s == nil || other == nil {
		t.Fatal("nil")
	}
	wantModel(t, s, nil)
	mustAdd(t, s, ofAllKinds(t)...)
	wantModel(t, other, nil)
}

func TestAdd(t *testing.T) {
	s := New()
	var m model
	for _, c := range ofAllKinds(t) {
		mustAdd(t, s, c)
		m = append(m, c)
		wantModel(t, s, m)
	}
	// Asked at the end alone, and from the last one on.
	wantModel(t, stateOf(t, m...), m)
	s = New()
	for i := range m {
		mustAdd(t, s, m[len(m)-1-i])
		if i%3 == 0 {
			wantModel(t, s, m[len(m)-1-i:])
		}
	}
	wantModel(t, s, m)
}

func TestAddRefusesWhatIsNotRight(t *testing.T) {
	for _, was := range []model{nil, ofAllKinds(t)} {
		s := stateOf(t, was...)
		for e, l := range wrong(t) {
			for _, c := range l {
				if got := s.Add(c); got != e {
					t.Errorf("Add(%v): %d, want %d", c, got, e)
				}
			}
			wantModel(t, s, was)
		}
	}
}

func TestAddOfOneStampOnceMore(t *testing.T) {
	good := model(ofAllKinds(t))
	s := stateOf(t, good...)
	for _, isDone := range []bool{false, true} {
		for _, c := range good {
			if e := s.Add(change.Copy(c)); e != api.ErrTwice {
				t.Errorf("Add(%v) twice: %d", c, e)
			}
			for _, o := range others(t, c) {
				if e := s.Add(o); e != api.ErrState {
					t.Errorf("Add(%v) beside %v: %d", o, c, e)
				}
			}
			// Whether it is right is asked ahead of all that.
			o := change.Copy(c)
			o.Deps = append(o.Deps, 0)
			if e := s.Add(o); e != api.ErrForm {
				t.Errorf("Add(%v): %d", o, e)
			}
		}
		if !isDone {
			wantModel(t, s, good)
		}
	}
	wantModel(t, s, good)
	// Without Deps is without Deps.
	c := good[0]
	c.Deps = []int{}
	if e := s.Add(c); e != api.ErrTwice {
		t.Errorf("%d", e)
	}
}

// What was refused has left nothing, so that another one may have its stamp.
func TestAddBehindWhatWasRefused(t *testing.T) {
	for _, l := range wrong(t) {
		for _, c := range l {
			s := New()
			s.Add(c)
			for _, good := range mustParse(t, "create 3.1 1 2 root - p", "set 3.0 1 - root id \"x\"") {
				mustAdd(t, s, good)
			}
			if s.Len() != 2 {
				t.Errorf("%v: %d", c, s.Len())
			}
		}
	}
}

func TestLen(t *testing.T) {
	s := New()
	for i, c := range ofAllKinds(t) {
		if s.Len() != i {
			t.Errorf("%d, not %d", s.Len(), i)
		}
		mustAdd(t, s, c)
		s.Add(c)
		s.Add(api.Change{})
		if i%2 == 0 {
			s.Doc()
		}
		if s.Len() != i+1 {
			t.Errorf("%d, not %d", s.Len(), i+1)
		}
	}
}

func TestCloneSharesNothing(t *testing.T) {
	all := model(ofAllKinds(t))
	for i := range len(all) + 1 {
		for _, isAsked := range []bool{false, true} {
			s := stateOf(t, all[:i]...)
			if isAsked {
				s.Doc()
			}
			c := s.Clone()
			wantModel(t, c, all[:i])
			mustAdd(t, c, all[i:]...)
			wantModel(t, s, all[:i])
			wantModel(t, c, all)
			more := mustParse(t, "create 99.5 1 - 1.0 2.1 u", "clear 99.6 1 - 2.1 id", "move 99.7 1 - 2.1 trash -")
			mustAdd(t, s, more...)
			wantModel(t, c, all)
			wantModel(t, s, append(slices.Clone(all[:i]), more...))
		}
	}
}

// A clone tells the same and another one of a stamp apart, as its original does.
func TestCloneKnowsItsChanges(t *testing.T) {
	all := ofAllKinds(t)
	s := stateOf(t, all...).Clone().Clone()
	for _, c := range all {
		if e := s.Add(c); e != api.ErrTwice {
			t.Errorf("Add(%v): %d", c, e)
		}
		for _, o := range others(t, c) {
			if e := s.Add(o); e != api.ErrState {
				t.Errorf("Add(%v): %d", o, e)
			}
		}
	}
}

func TestNilState(t *testing.T) {
	var s *State
	for _, c := range append(ofAllKinds(t), api.Change{}) {
		if e := s.Add(c); e != api.ErrState {
			t.Errorf("Add(%v): %d", c, e)
		}
	}
	for _, l := range wrong(t) {
		if e := s.Add(l[0]); e != api.ErrState {
			t.Errorf("Add(%v): %d", l[0], e)
		}
	}
	if s.Len() != 0 || s.Clone() != nil {
		t.Error("not nil's")
	}
	wantSpelt(t, s.Doc())
}

// The rules that hold everywhere

// spoil turns all that lies in the lists of the changes.
func spoil(l []api.Change) {
	for i := range l {
		for k := range l[i].Deps {
			l[i].Deps[k] = -7
		}
		l[i] = api.Change{At: stamp(77, 7), Name: "spoilt"}
	}
}

// copies tells the changes, each with Deps of its own, and room behind their ends.
func copies(l []api.Change) []api.Change {
	out := make([]api.Change, 0, len(l)+3)
	for _, c := range l {
		c.Deps = append(make([]int, 0, len(c.Deps)+3), c.Deps...)
		out = append(out, c)
	}
	return out
}

func TestNothingHandedInIsKept(t *testing.T) {
	all := model(ofAllKinds(t))
	in := copies(all)
	s := stateOf(t, in...)
	spoil(in)
	for _, c := range all {
		if e := s.Add(c); e != api.ErrTwice {
			t.Errorf("Add(%v): %d", c, e)
		}
	}
	wantModel(t, s, all)
	in = copies(all)
	d := mustOf(t, in)
	spoil(in)
	wantDoc(t, d, all.doc())
}

func TestNothingHandedInIsChanged(t *testing.T) {
	all := ofAllKinds(t)
	slices.Reverse(all)
	in := copies(all)
	mark := api.Change{Name: "behind"}
	_ = append(in, mark, mark, mark)
	for i := range in {
		_ = append(in[i].Deps, 5, 6, 7)
	}
	mustOf(t, in)
	s := stateOf(t, in...)
	s.Doc()
	s.Clone().Doc()
	for i, c := range in {
		if !change.Same(c, all[i]) || !slices.Equal(c.Deps[:len(c.Deps)+3][len(c.Deps):], []int{5, 6, 7}) {
			t.Errorf("of %v comes %v", all[i], c)
		}
	}
	for _, c := range in[:len(in)+3][len(in):] {
		if !change.Same(c, mark) {
			t.Errorf("behind the end: %v", c)
		}
	}
}

// Whoever asks of a Doc changes nothing of it, neither in its lists nor behind their ends.
func TestAskedDocsStayAsTheyAre(t *testing.T) {
	d, was := oddDoc(), oddDoc()
	mark := stamp(55, 5)
	for i := range d.Rows {
		d.Rows[i].Slots = append(append(make([]api.Stamp, 0, 9), d.Rows[i].Slots...), mark)
		d.Rows[i].Slots = d.Rows[i].Slots[:len(d.Rows[i].Slots)-1]
	}
	wantAsked(t, d)
	Same(d, was)
	if spelt(d) != spelt(was) {
		t.Errorf("of\n%scomes\n%s", spelt(was), spelt(d))
	}
	for _, r := range d.Rows {
		if r.Slots[:len(r.Slots)+1][len(r.Slots)] != mark {
			t.Errorf("behind the end: %v", r)
		}
	}
	kids := Kids(d, root)
	for i := range kids {
		kids[i] = mark
	}
	_ = append(kids, mark)
	wantDoc(t, d, was)
}

// turnAll turns all that lies in d, also behind the ends of its lists.
func turnAll(d api.Doc) {
	for i := range d.Rows {
		slots := d.Rows[i].Slots[:cap(d.Rows[i].Slots)]
		for k := range slots {
			slots[k] = stamp(77, 7)
		}
		d.Rows[i] = api.Row{Parent: stamp(77, 7)}
	}
	made, placed, regs := d.Made[:cap(d.Made)], d.Placed[:cap(d.Placed)], d.Regs[:cap(d.Regs)]
	for i := range made {
		made[i] = api.Made{Node: stamp(77, 7), Tag: "spoilt"}
	}
	for i := range placed {
		placed[i] = api.Placed{Node: stamp(77, 7)}
	}
	for i := range regs {
		regs[i] = api.Reg{Node: stamp(77, 7), Name: "spoilt"}
	}
}

func TestAnswersAreNewMemory(t *testing.T) {
	all := model(ofAllKinds(t))
	s := stateOf(t, all...)
	first := s.Doc()
	turnAll(s.Doc())
	wantDoc(t, first, all.doc())
	wantModel(t, s, all)
	c := s.Clone()
	turnAll(c.Doc())
	wantModel(t, c, all)
	wantModel(t, s, all)
	turnAll(mustOf(t, all))
	wantModel(t, s, all)
	// What was told stays as it was, whatever comes.
	mustAdd(t, s, mustParse(t, "create 1.5 1 - root - u", "move 98.5 1 - 1.0 root -", "clear 99.5 1 - root a-b")...)
	s.Doc()
	wantDoc(t, first, all.doc())
	// No two rows share one list.
	for i := range first.Rows {
		was := copied(first)
		slots := first.Rows[i].Slots
		_ = append(slots, stamp(77, 7))
		for k := range slots {
			slots[k].Count++
		}
		for k := range first.Rows {
			if k != i && !slices.Equal(first.Rows[k].Slots, was.Rows[k].Slots) {
				t.Errorf("rows %d and %d share their slots", i, k)
			}
		}
	}
}

// What follows

// orders tells all orders of n numbers.
func orders(n int) [][]int {
	if n == 0 {
		return [][]int{nil}
	}
	var out [][]int
	for _, o := range orders(n - 1) {
		for i := range n {
			out = append(out, slices.Insert(slices.Clone(o), i, n-1))
		}
	}
	return out
}

// P14.4
func TestAllOrdersOfFew(t *testing.T) {
	few := model(mustParse(t,
		"create 1.0 1 - root - p", "create 1.1 1 - root - b", "move 2.0 2 1,1 1.0 1.1 -", "move 2.1 2 1,1 1.1 1.0 1.0", "set 3.0 3 2,2 1.0 id \"x\"", "clear 3.1 3 2,2 1.0 id"))
	want := few.doc()
	for _, o := range orders(len(few)) {
		s, at, part := New(), New(), model{}
		for _, i := range o {
			mustAdd(t, s, few[i])
			mustAdd(t, at, few[i])
			part = append(part, few[i])
			wantModel(t, at, part)
		}
		wantDoc(t, s.Doc(), want)
		wantDoc(t, mustOf(t, part), want)
		if d := mustOf(t, part); !Same(d, want) {
			t.Fatalf("%v: not the same", o)
		}
	}
}

// player does what comes to its mind, of few stamps, names and nodes, so that much of it meets. Each change is right; they need not hang together.
type player struct {
	*rand.Rand
	counts, replicas int
}

func newPlayer(seed int64) player {
	return player{rand.New(rand.NewSource(seed)), 3 + int(seed%40), 1 + int(seed%4)}
}

// before tells a stamp ahead of that one; zero, if there is none.
func (p player) before(at api.Stamp) api.Stamp {
	if at.Count < 2 {
		return root
	}
	return stamp(1+p.Intn(at.Count-1), p.Intn(p.replicas))
}

func (p player) parent(c api.Change) api.Stamp {
	parent := p.before(c.At)
	switch k := p.Intn(12); {
	case k < 4, parent == c.Node:
		return root
	case k == 4:
		return trash
	}
	return parent
}

func (p player) change() api.Change {
	at := stamp(1+p.Intn(p.counts), p.Intn(p.replicas))
	c := api.Change{At: at, Seq: 1, Kind: 1 + p.Intn(5), Node: p.before(at)}
	if c.Kind == api.KMove && c.Node == root || p.Intn(3) == 0 {
		c.Kind = api.KCreate
	}
	switch c.Kind {
	case api.KCreate:
		c.Node, c.Name = at, []string{"p", "b", "i"}[p.Intn(3)]
		c.Parent, c.After = p.parent(c), p.before(at)
	case api.KMove:
		c.Parent, c.After = p.parent(c), p.before(at)
	case api.KSet:
		c.Name, c.Value = []string{"id", "class"}[p.Intn(2)], strconv.Itoa(p.Intn(3))
	case api.KClear:
		c.Name = []string{"id", "class"}[p.Intn(2)]
	case api.KText:
		c.Value = strconv.Itoa(p.Intn(3))
	}
	return c
}

// changes tells some of unlike stamps; of moved nodes all were made, if it is asked for.
func (p player) changes(n int, onlyMade bool) model {
	var out model
	isMade := func(node api.Stamp) bool {
		return slices.ContainsFunc(out, func(o api.Change) bool { return o.Kind == api.KCreate && o.At == node })
	}
	for range n {
		c := p.change()
		isThere := slices.ContainsFunc(out, func(o api.Change) bool { return o.At == c.At })
		if isThere || onlyMade && c.Kind == api.KMove && !isMade(c.Node) {
			continue
		}
		out = append(out, c)
	}
	return out
}

func (p player) shuffled(m model) model {
	out := slices.Clone(m)
	p.Shuffle(len(out), func(i, k int) { out[i], out[k] = out[k], out[i] })
	return out
}

func TestManyRunsAreAsTheModel(t *testing.T) {
	for seed := range int64(300) {
		p := newPlayer(seed)
		s, m := New(), model{}
		for range 60 {
			c := p.change()
			i := slices.IndexFunc(m, func(o api.Change) bool { return o.At == c.At })
			want := api.OK
			switch {
			case i >= 0 && change.Same(m[i], c):
				want = api.ErrTwice
			case i >= 0:
				want = api.ErrState
			default:
				m = append(m, c)
			}
			if e := s.Add(c); e != want {
				t.Fatalf("seed %d: Add(%v): %d, want %d", seed, c, e, want)
			}
			switch p.Intn(12) {
			case 0:
				s = s.Clone()
			case 1:
				wantModel(t, s, m)
			case 2:
				s.Doc()
			}
		}
		wantModel(t, s, m)
		wantDoc(t, mustOf(t, m), s.Doc())
	}
}

func TestTheOrderSaysNothing(t *testing.T) {
	for seed := range int64(100) {
		p := newPlayer(seed)
		m := p.changes(80, false)
		want := mustOf(t, m)
		wantDoc(t, want, m.doc())
		for range 4 {
			s := New()
			for _, c := range p.shuffled(m) {
				mustAdd(t, s, c)
				if p.Intn(5) == 0 {
					s.Doc()
				}
			}
			// Asked twice: it hangs on no map's order either.
			wantDoc(t, s.Doc(), want)
			wantDoc(t, s.Doc(), want)
			wantDoc(t, s.Clone().Doc(), want)
			if !Same(mustOf(t, p.shuffled(append(slices.Clone(m), m...))), want) {
				t.Fatalf("seed %d: not the same", seed)
			}
		}
	}
}

// reached tells whom one comes to who goes down from the root by Kids.
func reached(d api.Doc) []api.Stamp {
	out := []api.Stamp{root}
	for i := 0; i < len(out); i++ {
		out = append(out, Kids(d, out[i])...)
	}
	return out
}

// P14.5
func TestWhoeverGoesDownComesToTheLive(t *testing.T) {
	inAll := 0
	for seed := range int64(300) {
		p := newPlayer(seed)
		d := mustOf(t, p.shuffled(p.changes(90, true)))
		got := reached(d)
		want := []api.Stamp{root}
		for _, m := range d.Made {
			if Live(d, m.Node) {
				want = append(want, m.Node)
			}
		}
		if len(got) != len(want) || !slices.Equal(ident.Sort(got), ident.Sort(want)) {
			t.Fatalf("seed %d: %v, want %v", seed, got, want)
		}
		inAll += len(want)
	}
	if inAll < 1500 {
		t.Errorf("few live ones: %d", inAll)
	}
}

// With nodes that were never made: each live one once still, and beside them none but those, and what is beneath them.
func TestWhoeverGoesDownPastTheUnmade(t *testing.T) {
	for seed := range int64(150) {
		d := mustOf(t, newPlayer(seed).changes(90, false))
		got := reached(d)
		if len(ident.Sort(got)) != len(got) {
			t.Fatalf("seed %d: twice: %v", seed, got)
		}
		for _, m := range d.Made {
			if Live(d, m.Node) && !slices.Contains(got, m.Node) {
				t.Fatalf("seed %d: %v is live, and not come to", seed, m.Node)
			}
		}
		for _, node := range got {
			if !Live(d, node) && !isPastUnmade(d, node) {
				t.Fatalf("seed %d: %v is not live, and come to", seed, node)
			}
		}
	}
}

func isPastUnmade(d api.Doc, node api.Stamp) bool {
	for node != root {
		if _, ok := Tag(d, node); !ok {
			return true
		}
		i := slices.IndexFunc(d.Placed, func(p api.Placed) bool { return p.Node == node })
		if i < 0 {
			return false
		}
		node = d.Placed[i].Parent
	}
	return false
}

// P14.6
func TestWhatAKindLeavesAsItWas(t *testing.T) {
	for seed := range int64(100) {
		p := newPlayer(seed)
		s := New()
		for _, c := range p.changes(60, false) {
			was := s.Doc()
			mustAdd(t, s, c)
			is := s.Doc()
			var want api.Doc
			switch c.Kind {
			case api.KCreate:
				want = api.Doc{Made: is.Made, Placed: is.Placed, Rows: is.Rows, Regs: was.Regs}
			case api.KMove:
				want = api.Doc{Made: was.Made, Placed: is.Placed, Rows: is.Rows, Regs: was.Regs}
			default:
				want = api.Doc{Made: was.Made, Placed: was.Placed, Rows: was.Rows, Regs: is.Regs}
			}
			if !Same(is, want) {
				t.Fatalf("seed %d: %v: of\n%scomes\n%s", seed, c, spelt(was), spelt(is))
			}
		}
	}
}

// Many

// A log's worth, each beneath, or behind, the one ahead, from the last one on.
func TestAFullLog(t *testing.T) {
	const many = api.MaxChanges
	for _, isDeep := range []bool{false, true} {
		var l []api.Change
		for i := many; i >= 1; i-- {
			c := api.Change{At: stamp(i, 0), Seq: 1, Kind: api.KCreate, Node: stamp(i, 0), Name: "p"}
			if isDeep {
				c.Parent = stamp(i-1, 0)
			} else {
				c.After = stamp(i-1, 0)
			}
			l = append(l, c)
		}
		d := mustOf(t, l)
		if len(d.Made) != many || len(d.Placed) != many || !Live(d, stamp(many, 0)) {
			t.Fatalf("%d made, %d placed", len(d.Made), len(d.Placed))
		}
		if isDeep {
			if len(d.Rows) != many || len(Kids(d, stamp(many-1, 0))) != 1 {
				t.Errorf("%d rows", len(d.Rows))
			}
			continue
		}
		kids := Kids(d, root)
		if len(d.Rows) != 1 || len(kids) != many || kids[0] != stamp(1, 0) || !slices.IsSortedFunc(kids, order) {
			t.Errorf("%d rows, %d kids", len(d.Rows), len(kids))
		}
	}
}

// More than a log has room for, from the last one on: none is done once for each that comes ahead of it.
func TestManyFromTheLastOneOn(t *testing.T) {
	const many = 1 << 16
	s := New()
	for i := many; i >= 1; i-- {
		mustAdd(t, s, api.Change{At: stamp(i, 0), Seq: 1, Kind: api.KCreate, Node: stamp(i, 0), Name: "p"})
	}
	d := s.Doc()
	kids := Kids(d, root)
	slices.Reverse(kids)
	if s.Len() != many || len(kids) != many || !slices.IsSortedFunc(kids, order) || !Same(d, s.Clone().Doc()) {
		t.Errorf("%d kids", len(kids))
	}
}

// Of any bytes: each four of them are a change that is added, right or not.
func FuzzAnyCalls(f *testing.F) {
	f.Add([]byte{0x11, 0, 0, 0, 0x21, 1, 0, 0, 0x32, 0x11, 0x21, 0, 0x42, 0x21, 0x11, 0})
	f.Add([]byte{0x13, 0, 0, 1, 0x23, 0x11, 0, 2, 0x34, 0x11, 0, 3, 0x45, 0, 0, 4})
	f.Add([]byte{0x51, 0x40, 0x30, 0, 0x41, 0, 0, 0, 0x62, 0x41, 0x51, 0x40, 0x00, 0, 0, 0})
	f.Fuzz(func(t *testing.T, b []byte) {
		if len(b) > 160 {
			return
		}
		near := func(b byte) api.Stamp { return stamp(int(b>>4), int(b&15)) }
		s, m := New(), model{}
		for ; len(b) >= 4; b = b[4:] {
			c := api.Change{At: stamp(int(b[0]>>4), int(b[0]>>3)&1), Seq: 1, Kind: int(b[0] & 7), Node: near(b[1]), Parent: near(b[1]), After: near(b[2])}
			switch c.Kind {
			case api.KCreate:
				c.Node, c.Name = c.At, []string{"p", "b", "P"}[int(b[3])%3]
			case api.KMove:
				c.Node, c.After = near(b[2]), near(b[3])
			case api.KSet, api.KClear, api.KText:
				c.Parent, c.After = root, root
				c.Name = []string{"id", "class", "", "-"}[int(b[3])%4]
				c.Value = strings.Repeat("v", int(b[2])*2)
			}
			want := change.Check(c)
			i := slices.IndexFunc(m, func(o api.Change) bool { return o.At == c.At })
			if want == api.OK && i >= 0 {
				want = api.ErrState
				if change.Same(m[i], c) {
					want = api.ErrTwice
				}
			}
			if e := s.Add(c); e != want {
				t.Fatalf("Add(%v): %d, want %d", c, e, want)
			}
			if want == api.OK {
				m = append(m, c)
			}
			if b[3]&7 == 0 {
				wantModel(t, s, m)
				s = s.Clone()
			}
		}
		wantModel(t, s, m)
		wantDoc(t, mustOf(t, m), m.doc())
	})
}

// Of any bytes: a Doc to which no changes need come.
func FuzzAnyDoc(f *testing.F) {
	f.Add([]byte{0x01, 0x12, 0x23, 0x31, 0x10, 0x11, 0x20})
	f.Add([]byte{0, 0, 0, 1, 1, 1, 2, 2, 2, 3, 3, 3})
	f.Fuzz(func(t *testing.T, b []byte) {
		if len(b) > 120 {
			return
		}
		var d api.Doc
		near := func(b byte) api.Stamp { return stamp(int(b&3)-1, int(b>>2)&1) }
		for ; len(b) >= 3; b = b[3:] {
			x, y, z := near(b[0]), near(b[1]), near(b[2])
			switch b[0] >> 4 & 3 {
			case 0:
				d.Made = append(d.Made, api.Made{Node: x, Tag: strconv.Itoa(int(b[1]))})
			case 1:
				d.Placed = append(d.Placed, api.Placed{Node: x, Parent: y, Slot: z})
			case 2:
				d.Rows = append(d.Rows, api.Row{Parent: x, Slots: []api.Stamp{y, z, near(b[1] >> 4), near(b[2] >> 4)}})
			case 3:
				d.Regs = append(d.Regs, api.Reg{Node: x, Name: string(b[1:2]), At: z, Gone: b[2] > 127})
			}
		}
		wantAsked(t, d)
		if !Same(d, copied(d)) {
			t.Fatalf("not the same:\n%s", spelt(d))
		}
	})
}
