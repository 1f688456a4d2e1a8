package moves

import (
	"maps"
	"math"
	"math/rand"
	"slices"
	"strings"
	"testing"

	"topiary/api"
	"topiary/ident"
)

func stamp(count, replica int) api.Stamp { return api.Stamp{Count: count, Replica: replica} }

var (
	root  = stamp(0, 0)
	trash = stamp(0, 1)
)

// read tells the stamps of a text in which blanks part them.
func read(t testing.TB, text string) []api.Stamp {
	t.Helper()
	var out []api.Stamp
	for _, f := range strings.Fields(text) {
		s, e := ident.Parse(f)
		if e != api.OK {
			t.Fatalf("%q: %d", f, e)
		}
		out = append(out, s)
	}
	return out
}

func written(l []api.Stamp) string {
	var out []string
	for _, s := range l {
		text, e := ident.Text(s)
		if e != api.OK {
			text = "no node"
		}
		out = append(out, text)
	}
	return strings.Join(out, " ")
}

// mustDo does moves, each one as a text of its stamp, its node and its parent.
func mustDo(t testing.TB, x *Tree, texts ...string) {
	t.Helper()
	for _, text := range texts {
		m := read(t, text)
		if e := x.Do(m[0], m[1], m[2]); e != api.OK {
			t.Fatalf("Do(%s): %d", text, e)
		}
	}
}

func mustUndo(t testing.TB, x *Tree, texts ...string) {
	t.Helper()
	for _, text := range texts {
		if e := x.Undo(read(t, text)[0]); e != api.OK {
			t.Fatalf("Undo(%s): %d", text, e)
		}
	}
}

func treeOf(t testing.TB, texts ...string) *Tree {
	t.Helper()
	x := New()
	mustDo(t, x, texts...)
	return x
}

// wantAll asks where all stand: each one as a text of its node, its parent and its slot.
func wantAll(t testing.TB, x *Tree, texts ...string) {
	t.Helper()
	var got []string
	for _, p := range x.All() {
		got = append(got, written([]api.Stamp{p.Node, p.Parent, p.Slot}))
	}
	if !slices.Equal(got, texts) {
		t.Errorf("all: %q, want %q", got, texts)
	}
}

func wantCounts(t testing.TB, x *Tree, at string, want bool) {
	t.Helper()
	if got := x.Counts(read(t, at)[0]); got != want {
		t.Errorf("Counts(%s): %v", at, got)
	}
}

func wantAbove(t testing.TB, x *Tree, node, want string) {
	t.Helper()
	if got := written(x.Above(read(t, node)[0])); got != want {
		t.Errorf("Above(%s): %q, want %q", node, got, want)
	}
}

func wantKids(t testing.TB, x *Tree, parent, want string) {
	t.Helper()
	if got := written(x.Kids(read(t, parent)[0])); got != want {
		t.Errorf("Kids(%s): %q, want %q", parent, got, want)
	}
}

// model is the chapter's tree in its plainest form: the moves that there are, by their stamps, which are all done anew for each question.
type model map[api.Stamp]moved

type moved struct{ node, parent api.Stamp }

// above tells all that are above a node: found by adding whoever is beneath somebody found, till nobody is added.
func above(stands map[api.Stamp]api.Placed, node api.Stamp) map[api.Stamp]bool {
	out := map[api.Stamp]bool{}
	for added := true; added; {
		added = false
		for n, p := range stands {
			if (n == node || out[n]) && !out[p.Parent] {
				out[p.Parent], added = true, true
			}
		}
	}
	return out
}

func (m model) run() (map[api.Stamp]api.Placed, map[api.Stamp]bool) {
	stands, counts := map[api.Stamp]api.Placed{}, map[api.Stamp]bool{}
	for _, at := range slices.SortedFunc(maps.Keys(m), ident.Compare) {
		x := m[at]
		if x.node == x.parent || above(stands, x.parent)[x.node] {
			continue
		}
		stands[x.node] = api.Placed{Node: x.node, Parent: x.parent, Slot: at}
		counts[at] = true
	}
	return stands, counts
}

func (m model) do(at, node, parent api.Stamp) api.Errno {
	if !ident.Right(at) || !ident.Right(node) || !ident.Node(parent) {
		return api.ErrForm
	}
	if _, ok := m[at]; ok {
		return api.ErrTwice
	}
	m[at] = moved{node, parent}
	return api.OK
}

func (m model) undo(at api.Stamp) api.Errno {
	if _, ok := m[at]; !ok {
		return api.ErrNone
	}
	delete(m, at)
	return api.OK
}

// wantModel asks x all that can be asked of these stamps, and of all that the model knows.
func wantModel(t testing.TB, x *Tree, m model, some []api.Stamp) {
	t.Helper()
	stands, counts := m.run()
	some = append([]api.Stamp{root, trash}, some...)
	for at, y := range m {
		some = append(some, at, y.node, y.parent)
	}
	if x.Len() != len(m) {
		t.Fatalf("Len: %d, not %d", x.Len(), len(m))
	}
	kids := map[api.Stamp][]api.Stamp{}
	var all []api.Placed
	for _, node := range slices.SortedFunc(maps.Keys(stands), ident.Compare) {
		all = append(all, stands[node])
		kids[stands[node].Parent] = append(kids[stands[node].Parent], node)
	}
	for _, s := range ident.Sort(some) {
		if x.Counts(s) != counts[s] {
			t.Fatalf("%v: Counts(%v): %v", m, s, x.Counts(s))
		}
		want, ok := stands[s]
		if got, found := x.Where(s); got != want || found != ok {
			t.Fatalf("%v: Where(%v): %v %v, want %v %v", m, s, got, found, want, ok)
		}
		if got := x.Kids(s); !slices.Equal(got, kids[s]) {
			t.Fatalf("%v: Kids(%v): %v, want %v", m, s, got, kids[s])
		}
		wantNearestFirst(t, x.Above(s), stands, s)
	}
	if got := x.All(); !slices.Equal(got, all) {
		t.Fatalf("%v: All: %v, want %v", m, got, all)
	}
}

func wantNearestFirst(t testing.TB, got []api.Stamp, stands map[api.Stamp]api.Placed, node api.Stamp) {
	t.Helper()
	if want := above(stands, node); len(got) != len(want) {
		t.Fatalf("Above(%v): %v, want %v", node, got, want)
	}
	for _, up := range got {
		if stands[node].Parent != up {
			t.Fatalf("%v: %v is not just above %v", got, up, node)
		}
		node = up
	}
}

// edges are stamps that are right, and some that are not.
func edges() (right, wrong []api.Stamp) {
	right = []api.Stamp{stamp(1, 0), stamp(1, 63), stamp(7, 5), stamp(api.MaxCount, 0), stamp(api.MaxCount, 63)}
	wrong = []api.Stamp{
		stamp(0, 2), stamp(0, 63), stamp(0, -1), stamp(-1, 0), stamp(-1, 1), stamp(1, -1), stamp(1, 64), stamp(api.MaxCount+1, 0), stamp(api.MaxCount, 64),
		stamp(math.MaxInt, 0), stamp(math.MinInt, 0), stamp(1, math.MaxInt), stamp(1, math.MinInt), stamp(math.MaxInt, math.MaxInt), stamp(math.MinInt, math.MinInt),
	}
	return right, wrong
}

// The examples

func TestExample(t *testing.T) {
	x := treeOf(t, "3.0 1.0 root", "4.0 2.0 1.0")
	wantAll(t, x, "1.0 root 3.0", "2.0 1.0 4.0")
	mustDo(t, x, "5.1 1.0 2.0")
	wantCounts(t, x, "5.1", false)
	wantAll(t, x, "1.0 root 3.0", "2.0 1.0 4.0")
	mustDo(t, x, "2.1 2.0 root")
	wantCounts(t, x, "2.1", true)
	wantAll(t, x, "1.0 root 3.0", "2.0 1.0 4.0")
	mustUndo(t, x, "4.0")
	wantCounts(t, x, "5.1", true)
	wantAll(t, x, "1.0 2.0 5.1", "2.0 root 2.1")
}

// Of two that move two nodes into one another the lesser stamp counts, whichever came first.
func TestTwoMovesIntoOneAnother(t *testing.T) {
	both := []string{"2.0 1.0 1.1", "2.1 1.1 1.0"}
	for _, order := range [][]string{both, {both[1], both[0]}} {
		x := treeOf(t, "1.0 1.0 root", "1.1 1.1 root")
		mustDo(t, x, order...)
		wantCounts(t, x, "2.0", true)
		wantCounts(t, x, "2.1", false)
		wantAll(t, x, "1.0 1.1 2.0", "1.1 root 1.1")
	}
}

// What is in the trash is moved like all else, and comes back.
func TestTheTrash(t *testing.T) {
	x := treeOf(t, "1.0 1.0 root", "2.0 2.0 1.0", "3.0 1.0 trash", "4.0 1.0 2.0")
	wantAbove(t, x, "2.0", "1.0 trash")
	wantKids(t, x, "trash", "1.0")
	wantKids(t, x, "root", "")
	wantCounts(t, x, "4.0", false)
	mustDo(t, x, "5.0 2.0 root", "6.0 1.0 2.0")
	wantAbove(t, x, "1.0", "2.0 root")
	wantKids(t, x, "trash", "")
}

// P11.1

func TestNewIsOfNoMoves(t *testing.T) {
	x, y := New(), New()
	if x == nil || y == nil {
		t.Fatal("nil")
	}
	wantModel(t, x, model{}, read(t, "1.0 2.1"))
	mustDo(t, x, "1.0 1.0 root")
	wantModel(t, y, model{}, read(t, "1.0"))
}

func TestDoTakesWhatIsRight(t *testing.T) {
	right, _ := edges()
	for _, at := range right {
		for _, node := range right {
			for _, parent := range append([]api.Stamp{root, trash}, right...) {
				x := New()
				if e := x.Do(at, node, parent); e != api.OK {
					t.Errorf("Do(%v, %v, %v): %d", at, node, parent, e)
				}
				wantModel(t, x, model{at: {node, parent}}, nil)
			}
		}
	}
}

func TestDoRefusesWhatIsNotRight(t *testing.T) {
	right, wrong := edges()
	x := treeOf(t, "7.5 1.0 root", "8.0 1.63 1.0")
	m := model{stamp(7, 5): {stamp(1, 0), root}, stamp(8, 0): {stamp(1, 63), stamp(1, 0)}}
	refused := func(at, node, parent api.Stamp) {
		if e := x.Do(at, node, parent); e != api.ErrForm {
			t.Errorf("Do(%v, %v, %v): %d", at, node, parent, e)
		}
	}
	for _, s := range wrong {
		for _, r := range right {
			refused(s, r, root)
			refused(r, s, root)
			refused(r, r, s)
			refused(s, s, r)
			refused(s, s, s)
		}
	}
	// The root and the trash are nodes' names, but no right stamps: no move is theirs, and none moves them.
	for _, s := range []api.Stamp{root, trash} {
		for _, r := range right {
			refused(s, r, root)
			refused(r, s, root)
			refused(r, s, s)
			refused(r, s, stamp(1, 0))
		}
	}
	wantModel(t, x, m, append(right, wrong...))
}

func TestDoTwice(t *testing.T) {
	x := treeOf(t, "1.0 1.0 root", "2.0 2.0 1.0", "3.0 1.0 2.0")
	for _, text := range []string{"1.0 1.0 root", "2.0 2.0 1.0", "2.0 2.0 root", "2.0 5.0 1.0", "3.0 1.0 2.0", "3.0 1.0 trash", "1.0 7.0 7.0"} {
		m := read(t, text)
		for range 2 {
			if e := x.Do(m[0], m[1], m[2]); e != api.ErrTwice {
				t.Errorf("Do(%s): %d", text, e)
			}
		}
	}
	if x.Len() != 3 {
		t.Errorf("%d moves", x.Len())
	}
	wantAll(t, x, "1.0 root 1.0", "2.0 1.0 2.0")
	wantCounts(t, x, "3.0", false)
}

// The stamp of a move that is there, and something that is not right: the first one of the chapter's errors.
func TestFormAheadOfTwice(t *testing.T) {
	x := treeOf(t, "1.0 1.0 root")
	if e := x.Do(stamp(1, 0), trash, root); e != api.ErrForm {
		t.Error(e)
	}
	if e := x.Do(stamp(1, 0), stamp(1, 0), stamp(0, 2)); e != api.ErrForm {
		t.Error(e)
	}
}

func TestUndoOfNone(t *testing.T) {
	right, wrong := edges()
	x := treeOf(t, "1.1 1.0 root", "3.0 2.0 1.0")
	m := model{stamp(1, 1): {stamp(1, 0), root}, stamp(3, 0): {stamp(2, 0), stamp(1, 0)}}
	for _, at := range slices.Concat(right, wrong, []api.Stamp{root, trash, stamp(2, 0), stamp(3, 1), stamp(4, 0)}) {
		if e := x.Undo(at); e != api.ErrNone {
			t.Errorf("Undo(%v): %d", at, e)
		}
		if e := New().Undo(at); e != api.ErrNone {
			t.Errorf("Undo(%v) of no moves: %d", at, e)
		}
	}
	wantModel(t, x, m, right)
}

func TestUndo(t *testing.T) {
	x := treeOf(t, "1.0 1.0 root", "2.0 1.0 trash", "3.0 2.0 1.0", "4.0 1.0 1.0")
	mustUndo(t, x, "2.0")
	wantAll(t, x, "1.0 root 1.0", "2.0 1.0 3.0")
	mustUndo(t, x, "4.0")
	wantAll(t, x, "1.0 root 1.0", "2.0 1.0 3.0")
	mustUndo(t, x, "1.0")
	wantAll(t, x, "2.0 1.0 3.0")
	wantAbove(t, x, "2.0", "1.0")
	mustUndo(t, x, "3.0")
	wantAll(t, x)
	if x.Len() != 0 {
		t.Errorf("%d moves", x.Len())
	}
	if e := x.Undo(stamp(3, 0)); e != api.ErrNone {
		t.Errorf("undone once more: %d", e)
	}
}

// The stamp of a move that was undone may be taken anew, by another move, too.
func TestDoOfWhatWasUndone(t *testing.T) {
	x := treeOf(t, "1.0 1.0 root", "2.0 2.0 1.0")
	mustUndo(t, x, "1.0")
	mustDo(t, x, "1.0 1.0 trash")
	wantAll(t, x, "1.0 trash 1.0", "2.0 1.0 2.0")
	mustUndo(t, x, "2.0")
	mustDo(t, x, "2.0 1.0 1.0")
	wantAll(t, x, "1.0 trash 1.0")
	wantCounts(t, x, "2.0", false)
}

func TestLen(t *testing.T) {
	x := New()
	for i, text := range []string{"5.0 1.0 root", "4.0 1.0 1.0", "6.0 1.0 1.0", "1.0 1.0 root", "9.9 2.0 trash"} {
		mustDo(t, x, text)
		if x.Len() != i+1 {
			t.Errorf("behind %d moves: %d", i+1, x.Len())
		}
	}
	for i, at := range []string{"6.0", "1.0", "9.9", "5.0", "4.0"} {
		mustUndo(t, x, at)
		if x.Len() != 4-i {
			t.Errorf("without %d moves: %d", i+1, x.Len())
		}
	}
}

// P11.2

func TestCounts(t *testing.T) {
	x := treeOf(t, "5.0 1.0 2.0", "6.0 2.0 3.0", "7.0 3.0 1.0", "7.1 3.0 2.0", "8.0 3.0 3.0", "9.0 3.0 root", "9.1 3.0 1.0", "9.2 1.0 2.0")
	for at, want := range map[string]bool{"5.0": true, "6.0": true, "7.0": false, "7.1": false, "8.0": false, "9.0": true, "9.1": false, "9.2": true} {
		wantCounts(t, x, at, want)
	}
	right, wrong := edges()
	for _, at := range slices.Concat(right, wrong, []api.Stamp{root, trash, stamp(5, 1), stamp(6, 5)}) {
		if x.Counts(at) {
			t.Errorf("Counts(%v), but there is no such move", at)
		}
	}
	mustUndo(t, x, "5.0")
	wantCounts(t, x, "5.0", false)
	wantCounts(t, x, "7.0", true)
}

// A move to where the node stands already counts: its slot is another one.
func TestMoveToTheSamePlace(t *testing.T) {
	x := treeOf(t, "1.0 1.0 root", "2.0 1.0 root")
	wantCounts(t, x, "1.0", true)
	wantCounts(t, x, "2.0", true)
	wantAll(t, x, "1.0 root 2.0")
	wantKids(t, x, "root", "1.0")
}

func TestWhere(t *testing.T) {
	x := treeOf(t, "5.2 1.0 2.0", "6.0 3.0 trash", "7.0 4.0 4.0")
	if p, ok := x.Where(stamp(1, 0)); !ok || p != (api.Placed{Node: stamp(1, 0), Parent: stamp(2, 0), Slot: stamp(5, 2)}) {
		t.Errorf("%v %v", p, ok)
	}
	if p, ok := x.Where(stamp(3, 0)); !ok || p != (api.Placed{Node: stamp(3, 0), Parent: trash, Slot: stamp(6, 0)}) {
		t.Errorf("%v %v", p, ok)
	}
	_, wrong := edges()
	for _, node := range slices.Concat(wrong, []api.Stamp{root, trash, stamp(2, 0), stamp(4, 0), stamp(5, 2), stamp(9, 0)}) {
		if p, ok := x.Where(node); ok || p != (api.Placed{}) {
			t.Errorf("Where(%v): %v %v", node, p, ok)
		}
	}
}

func TestAbove(t *testing.T) {
	x := treeOf(t, "1.0 1.0 root", "2.0 2.0 1.0", "3.0 3.0 2.0", "4.0 4.0 3.0", "5.0 6.0 7.0", "6.0 5.0 6.0")
	wantAbove(t, x, "4.0", "3.0 2.0 1.0 root")
	wantAbove(t, x, "2.0", "1.0 root")
	// 7.0 was never moved: it stands nowhere, but those beneath it are beneath it.
	wantAbove(t, x, "5.0", "6.0 7.0")
	mustDo(t, x, "7.0 2.0 trash")
	wantAbove(t, x, "4.0", "3.0 2.0 trash")
	right, wrong := edges()
	for _, node := range slices.Concat(right[1:], wrong, []api.Stamp{root, trash, stamp(7, 0)}) {
		if l := x.Above(node); len(l) != 0 {
			t.Errorf("Above(%v): %v", node, l)
		}
	}
}

func TestKids(t *testing.T) {
	x := treeOf(t, "9.0 2.1 root", "8.0 10.0 root", "7.0 2.0 root", "6.0 1.63 root", "5.0 3.0 2.0", "4.0 9.0 trash", "10.0 8.0 7.0")
	wantKids(t, x, "root", "1.63 2.0 2.1 10.0")
	wantKids(t, x, "2.0", "3.0")
	wantKids(t, x, "trash", "9.0")
	wantKids(t, x, "7.0", "8.0")
	_, wrong := edges()
	for _, parent := range slices.Concat(wrong, []api.Stamp{stamp(3, 0), stamp(99, 0)}) {
		if l := x.Kids(parent); len(l) != 0 {
			t.Errorf("Kids(%v): %v", parent, l)
		}
	}
	mustDo(t, x, "11.0 2.0 2.1")
	wantKids(t, x, "root", "1.63 2.1 10.0")
	wantKids(t, x, "2.1", "2.0")
}

func TestAll(t *testing.T) {
	x := treeOf(t, "9.0 2.1 root", "8.0 10.0 2.1", "7.0 2.0 trash", "6.0 1.63 5.0", "5.0 1.63 root", "4.0 3.0 3.0")
	wantAll(t, x, "1.63 5.0 6.0", "2.0 trash 7.0", "2.1 root 9.0", "10.0 2.1 8.0")
}

func TestCloneSharesNothing(t *testing.T) {
	first := []string{"1.0 1.0 root", "2.0 2.0 1.0", "3.0 3.0 2.0", "5.0 3.0 root"}
	want := []string{"1.0 root 1.0", "2.0 1.0 2.0", "3.0 root 5.0"}
	for _, asked := range []bool{false, true} {
		x := treeOf(t, first...)
		if asked {
			wantAll(t, x, want...)
		}
		y := x.Clone()
		mustDo(t, x, "4.0 1.0 trash", "6.0 2.0 3.0", "7.0 4.0 root")
		mustUndo(t, x, "1.0")
		wantAll(t, x, "1.0 trash 4.0", "2.0 3.0 6.0", "3.0 root 5.0", "4.0 root 7.0")
		wantAll(t, y, want...)
		mustUndo(t, y, "5.0")
		mustDo(t, y, "4.0 2.0 trash", "8.0 8.0 8.0")
		wantAll(t, y, "1.0 root 1.0", "2.0 trash 4.0", "3.0 2.0 3.0")
		wantAll(t, x, "1.0 trash 4.0", "2.0 3.0 6.0", "3.0 root 5.0", "4.0 root 7.0")
		if x.Len() != 6 || y.Len() != 5 {
			t.Errorf("%d and %d moves", x.Len(), y.Len())
		}
	}
	if y := New().Clone(); y == nil || y.Len() != 0 || y.Do(stamp(1, 0), stamp(1, 0), root) != api.OK {
		t.Error("a clone of no moves")
	}
}

// A tree and its clone, which go ways of their own, turn by turn.
func TestCloneGoesItsOwnWay(t *testing.T) {
	for seed := range int64(60) {
		p := player{rand.New(rand.NewSource(seed)), 5, 40, 2}
		x, m := New(), model{}
		for range 30 {
			p.step(t, x, m)
		}
		if seed%2 == 0 {
			x.All()
		}
		y, n := x.Clone(), maps.Clone(m)
		for range 30 {
			p.step(t, x, m)
			p.step(t, y, n)
			if p.Intn(3) == 0 {
				wantModel(t, x, m, nil)
				wantModel(t, y, n, nil)
			}
		}
		wantModel(t, x, m, nil)
		wantModel(t, y, n, nil)
	}
}

func TestNilTree(t *testing.T) {
	var x *Tree
	right, wrong := edges()
	for _, s := range slices.Concat(right, wrong, []api.Stamp{root, trash}) {
		for _, e := range []api.Errno{x.Do(s, s, s), x.Do(s, stamp(1, 0), root), x.Undo(s)} {
			if e != api.ErrState {
				t.Errorf("of nil: %d", e)
			}
		}
	}
	wantModel(t, x, model{}, append(right, wrong...))
	if x.Clone() != nil {
		t.Error("a clone of nil")
	}
}

func TestAnswersAreNewMemory(t *testing.T) {
	x := treeOf(t, "1.0 1.0 root", "2.0 2.0 1.0", "3.0 3.0 2.0", "4.0 4.0 1.0")
	spoil := func(l []api.Stamp) {
		for i := range l {
			l[i] = stamp(77, 7)
		}
		_ = append(l, stamp(78, 7))
	}
	spoil(x.Above(stamp(3, 0)))
	spoil(x.Kids(stamp(1, 0)))
	all := x.All()
	for i := range all {
		all[i] = api.Placed{Node: trash, Parent: trash, Slot: trash}
	}
	wantAbove(t, x, "3.0", "2.0 1.0 root")
	wantKids(t, x, "1.0", "2.0 4.0")
	wantAll(t, x, "1.0 root 1.0", "2.0 1.0 2.0", "3.0 2.0 3.0", "4.0 1.0 4.0")
}

// Many in a map, asked again and again: their order is always the same.
func TestAnswersHangOnNoMapsOrder(t *testing.T) {
	x := New()
	var nodes []api.Stamp
	for i := range 300 {
		node := stamp(1+i*7%300, i%3)
		nodes = append(nodes, node)
		if e := x.Do(stamp(1000-i, 0), node, root); e != api.OK {
			t.Fatal(e)
		}
	}
	want := ident.Sort(nodes)
	for range 20 {
		if got := x.Kids(root); !slices.Equal(got, want) {
			t.Fatalf("%v", got)
		}
		for i, p := range x.All() {
			if p.Node != want[i] {
				t.Fatalf("at %d: %v", i, p)
			}
		}
	}
}

// P11.3

// fewMoves tells all moves of three nodes beneath one another, the root and the trash.
func fewMoves() []moved {
	nodes := []api.Stamp{stamp(1, 0), stamp(1, 1), stamp(2, 0)}
	var out []moved
	for _, node := range nodes {
		for _, parent := range append([]api.Stamp{root, trash}, nodes...) {
			out = append(out, moved{node, parent})
		}
	}
	return out
}

// orders tells all orders of n numbers.
func orders(n int) [][]int {
	if n == 0 {
		return [][]int{nil}
	}
	var out [][]int
	for _, o := range orders(n - 1) {
		for i := range n {
			out = append(out, slices.Insert(slices.Clone(o), i, n-1))
		}
	}
	return out
}

// All threes of moves of three nodes, in all orders, asked at the end alone and behind each move.
func TestAllOrdersOfFewMoves(t *testing.T) {
	few := fewMoves()
	ats := []api.Stamp{stamp(3, 1), stamp(4, 0), stamp(4, 1)}
	for i := range len(few) * len(few) * len(few) {
		m := model{ats[0]: few[i%15], ats[1]: few[i/15%15], ats[2]: few[i/225]}
		for _, o := range orders(3) {
			late, soon, part := New(), New(), model{}
			for _, k := range o {
				x := m[ats[k]]
				part[ats[k]] = x
				if late.Do(ats[k], x.node, x.parent) != api.OK || soon.Do(ats[k], x.node, x.parent) != api.OK {
					t.Fatal("Do")
				}
				wantModel(t, soon, part, nil)
			}
			wantModel(t, late, m, nil)
		}
	}
}

// player does and undoes what comes to its mind, at a tree and at the model.
type player struct {
	*rand.Rand
	nodes, counts, replicas int
}

func (p player) at() api.Stamp { return stamp(1+p.Intn(p.counts), p.Intn(p.replicas)) }

func (p player) node() api.Stamp { return stamp(1+p.Intn(p.nodes), 0) }

func (p player) parent() api.Stamp {
	switch p.Intn(8) {
	case 0:
		return root
	case 1:
		return trash
	}
	return p.node()
}

func (p player) step(t testing.TB, x *Tree, m model) {
	t.Helper()
	if p.Intn(4) == 0 {
		at := p.at()
		if e, want := x.Undo(at), m.undo(at); e != want {
			t.Fatalf("Undo(%v): %d, want %d", at, e, want)
		}
		return
	}
	at, node, parent := p.at(), p.node(), p.parent()
	if e, want := x.Do(at, node, parent), m.do(at, node, parent); e != want {
		t.Fatalf("Do(%v, %v, %v): %d, want %d", at, node, parent, e, want)
	}
}

func TestManyRunsAreAsTheModel(t *testing.T) {
	for seed := range int64(150) {
		p := player{rand.New(rand.NewSource(seed)), 2 + int(seed%9), 10 + int(seed%5)*8, 1 + int(seed%3)}
		x, m := New(), model{}
		for range 80 {
			p.step(t, x, m)
			// Now and then it is asked behind many steps alone, and goes on as a clone.
			switch p.Intn(6) {
			case 0, 1, 2:
				wantModel(t, x, m, nil)
			case 3:
				x = x.Clone()
			}
		}
		wantModel(t, x, m, []api.Stamp{p.node(), p.at()})
	}
}

// However it came to the moves that it has, in which order, with what undone between: it is the tree that they make.
func TestTheOrderOfCallsSaysNothing(t *testing.T) {
	for seed := range int64(40) {
		p := player{rand.New(rand.NewSource(seed)), 12, 200, 2}
		x, m := New(), model{}
		for range 150 {
			p.step(t, x, m)
		}
		y := New()
		ats := slices.SortedFunc(maps.Keys(m), ident.Compare)
		p.Shuffle(len(ats), func(i, k int) { ats[i], ats[k] = ats[k], ats[i] })
		for _, at := range ats {
			y.Do(at, m[at].node, m[at].parent)
		}
		if !slices.Equal(x.All(), y.All()) {
			t.Fatalf("seed %d: %v and %v", seed, x.All(), y.All())
		}
		for _, at := range ats {
			if x.Counts(at) != y.Counts(at) {
				t.Fatalf("seed %d: %v counts in one of them", seed, at)
			}
		}
	}
}

// P11.4

func TestNobodyIsAboveItself(t *testing.T) {
	for seed := range int64(60) {
		p := player{rand.New(rand.NewSource(seed)), 3 + int(seed%20), 100, 2}
		x, m := New(), model{}
		for range 100 {
			p.step(t, x, m)
			for i := range p.nodes {
				up := x.Above(stamp(1+i, 0))
				if slices.Contains(up, stamp(1+i, 0)) || len(up) > x.Len() || len(ident.Sort(up)) != len(up) {
					t.Fatalf("seed %d: above %d.0 of %d moves: %v", seed, 1+i, x.Len(), up)
				}
			}
		}
	}
}

// As many nested in one another as the document speaks of, from the top down and from the bottom up.
func TestDeepTree(t *testing.T) {
	const deep = 1 << 16
	parent := func(i int) api.Stamp {
		if i == 1 {
			return root
		}
		return stamp(i-1, 0)
	}
	down, up := New(), New()
	for i := 1; i <= deep; i++ {
		if down.Do(stamp(i, 1), stamp(i, 0), parent(i)) != api.OK || up.Do(stamp(i, 1), stamp(deep+1-i, 0), parent(deep+1-i)) != api.OK {
			t.Fatal(i)
		}
	}
	for _, x := range []*Tree{down, up} {
		above := x.Above(stamp(deep, 0))
		if len(above) != deep || above[0] != stamp(deep-1, 0) || above[deep-1] != root {
			t.Fatalf("%d above", len(above))
		}
		x.Do(stamp(deep+1, 0), stamp(1, 0), stamp(deep, 0))
		x.Do(stamp(deep+2, 0), stamp(2, 0), trash)
		if x.Counts(stamp(deep+1, 0)) || !x.Counts(stamp(deep+2, 0)) || len(x.Above(stamp(deep, 0))) != deep-1 {
			t.Error("the first one beneath the last one")
		}
	}
}

// Moves that each nest a node in the one ahead, the last one done first; asked behind each.
func TestManyFromTheLastOneOn(t *testing.T) {
	const n = 1024
	x := New()
	for i := n; i > 0; i-- {
		x.Do(stamp(i, 1), stamp(i, 0), stamp(i-1, 0))
		if l := x.Above(stamp(n, 0)); len(l) != n-i+1 {
			t.Fatalf("from %d on: %d above", i, len(l))
		}
	}
}

// P11.5

func TestTheLastMoveThatCounts(t *testing.T) {
	for seed := range int64(60) {
		p := player{rand.New(rand.NewSource(seed)), 6, 60, 2}
		x, m := New(), model{}
		for range 120 {
			p.step(t, x, m)
		}
		last := map[api.Stamp]api.Stamp{}
		for at, y := range m {
			if x.Counts(at) && ident.Less(last[y.node], at) {
				last[y.node] = at
			}
		}
		for i := range p.nodes {
			node := stamp(1+i, 0)
			got, ok := x.Where(node)
			if at := last[node]; ok != (at != api.Stamp{}) || got.Slot != at || got.Parent != m[at].parent {
				t.Fatalf("seed %d: %v stands %v %v, its last one is %v", seed, node, got, ok, at)
			}
		}
	}
}

func TestMoveBehindAllOthers(t *testing.T) {
	for seed := range int64(60) {
		p := player{rand.New(rand.NewSource(seed)), 6, 60, 2}
		x, m := New(), model{}
		for range 100 {
			p.step(t, x, m)
		}
		for i := range 20 {
			at, node, parent := stamp(100+i, 0), p.node(), p.parent()
			ring := node == parent || slices.Contains(x.Above(parent), node)
			was := x.All()
			x.Do(at, node, parent)
			if x.Counts(at) == ring {
				t.Fatalf("seed %d: %v beneath %v: counts %v", seed, node, parent, !ring)
			}
			if ring && !slices.Equal(x.All(), was) {
				t.Fatalf("seed %d: a move that does not count has changed something", seed)
			}
		}
	}
}

func TestUndoOfDoLeavesTheTree(t *testing.T) {
	for seed := range int64(60) {
		p := player{rand.New(rand.NewSource(seed)), 7, 60, 2}
		x, m := New(), model{}
		for range 60 {
			p.step(t, x, m)
			at := p.at()
			if x.Do(at, p.node(), p.parent()) != api.OK {
				continue
			}
			if p.Intn(2) == 0 {
				x.All()
			}
			if e := x.Undo(at); e != api.OK {
				t.Fatalf("seed %d: Undo(%v): %d", seed, at, e)
			}
			wantModel(t, x, m, []api.Stamp{at})
		}
	}
}

// What is kept of nodes is kept of those alone that stand somewhere, or have kids.
func TestNothingIsKeptOfWhatIsUndone(t *testing.T) {
	for seed := range int64(20) {
		p := player{rand.New(rand.NewSource(seed)), 9, 60, 2}
		x, m := New(), model{}
		for range 100 {
			p.step(t, x, m)
			x.All()
		}
		kids := map[api.Stamp]int{}
		for _, q := range x.All() {
			kids[q.Parent]++
		}
		if !maps.Equal(x.kids, kids) {
			t.Fatalf("seed %d: %v, not %v", seed, x.kids, kids)
		}
		for at := range m {
			x.Undo(at)
		}
		if len(x.stands) != 0 || len(x.kids) != 0 || x.Len() != 0 {
			t.Fatalf("seed %d: %v %v are kept", seed, x.stands, x.kids)
		}
	}
}

// Of any bytes: each three of them are a call.
func FuzzAnyCalls(f *testing.F) {
	f.Add([]byte{3, 1, 0, 4, 2, 1, 5, 1, 2, 2, 2, 0, 0x84, 0, 0})
	f.Add([]byte{1, 1, 2, 2, 2, 3, 3, 3, 1, 0x81, 0, 0, 0x81, 0, 0})
	f.Add([]byte{0, 0, 0, 9, 0, 9, 9, 9, 7})
	f.Fuzz(func(t *testing.T, b []byte) {
		if len(b) > 240 {
			return
		}
		x, m := New(), model{}
		for ; len(b) >= 3; b = b[3:] {
			at, node, parent := stamp(int(b[0]&31), 0), stamp(int(b[1]&15), 0), stamp(int(b[2]&15), int(b[2]>>7))
			if b[0] >= 0x80 {
				if e, want := x.Undo(at), m.undo(at); e != want {
					t.Fatalf("Undo(%v): %d, want %d", at, e, want)
				}
			} else if e, want := x.Do(at, node, parent), m.do(at, node, parent); e != want {
				t.Fatalf("Do(%v, %v, %v): %d, want %d", at, node, parent, e, want)
			}
			if b[0]&0x40 != 0 {
				wantModel(t, x, m, nil)
			}
		}
		wantModel(t, x, m, nil)
	})
}
