package lww

import (
	"cmp"
	"math"
	"math/rand"
	"slices"
	"strconv"
	"strings"
	"testing"

	"topiary/api"
	"topiary/ident"
)

func stamp(count, replica int) api.Stamp { return api.Stamp{Count: count, Replica: replica} }

var root = api.Stamp{}

// reg tells a register's content with that value; gone one with none.
func reg(node api.Stamp, name string, at api.Stamp, value string) api.Reg {
	return api.Reg{Node: node, Name: name, At: at, Value: value}
}

func gone(node api.Stamp, name string, at api.Stamp) api.Reg {
	return api.Reg{Node: node, Name: name, At: at, Gone: true}
}

func mustPut(t testing.TB, x *Regs, l ...api.Reg) {
	t.Helper()
	for _, r := range l {
		if e := x.Put(r); e != api.OK {
			t.Fatalf("Put(%v): %d", r, e)
		}
	}
}

func regsOf(t testing.TB, l ...api.Reg) *Regs {
	t.Helper()
	x := New()
	mustPut(t, x, l...)
	return x
}

// model is the chapter's registers in their plainest form: all that was put.
type model []api.Reg

// beats tells the chapter's words of which one wins, in its own way: by what ranks first.
func beats(a, b api.Reg) bool {
	there := func(r api.Reg) int {
		if r.Gone {
			return 0
		}
		return 1
	}
	text := func(a, b api.Reg) int {
		if a.Gone || b.Gone {
			return 0
		}
		return slices.Compare([]byte(a.Value), []byte(b.Value))
	}
	return cmp.Or(cmp.Compare(a.At.Count, b.At.Count), cmp.Compare(a.At.Replica, b.At.Replica), cmp.Compare(there(a), there(b)), text(a, b)) > 0
}

// get tells the one over which nothing wins that was put there.
func (m model) get(node api.Stamp, name string) (api.Reg, bool) {
	var out api.Reg
	found := false
	for _, r := range m {
		if r.Node == node && r.Name == name && (!found || beats(r, out)) {
			out, found = r, true
		}
	}
	return out, found
}

// all tells what all registers have, in the order of registers.
func (m model) all() []api.Reg {
	var out []api.Reg
	for i, r := range m {
		isFirst := !slices.ContainsFunc(m[:i], func(o api.Reg) bool { return o.Node == r.Node && o.Name == r.Name })
		if isFirst {
			won, _ := m.get(r.Node, r.Name)
			out = append(out, won)
		}
	}
	slices.SortFunc(out, func(a, b api.Reg) int {
		return cmp.Or(cmp.Compare(a.Node.Count, b.Node.Count), cmp.Compare(a.Node.Replica, b.Node.Replica), slices.Compare([]byte(a.Name), []byte(b.Name)))
	})
	return out
}

func (m model) attrs(node api.Stamp) []api.Attr {
	var out []api.Attr
	for _, r := range m.all() {
		if r.Node == node && r.Name != "" && !r.Gone {
			out = append(out, api.Attr{Name: r.Name, Value: r.Value})
		}
	}
	return out
}

// wantModel asks x all that can be asked of these nodes, of all that the model knows, and of all their names.
func wantModel(t testing.TB, x *Regs, m model, some ...api.Stamp) {
	t.Helper()
	all := m.all()
	if got := x.All(); !slices.Equal(got, all) {
		t.Fatalf("All: %v, want %v", got, all)
	}
	names := []string{"", "id", "no-such-name", "A"}
	some = append(slices.Clone(some), root, stamp(0, 1), stamp(77, 7))
	for _, r := range all {
		names, some = append(names, r.Name), append(some, r.Node)
	}
	slices.Sort(names)
	for _, node := range ident.Sort(some) {
		if got, want := slices.Collect(x.Each(node)), m.attrs(node); !slices.Equal(got, want) {
			t.Fatalf("Each(%v): %v, want %v", node, got, want)
		}
		for _, name := range slices.Compact(names) {
			want, there := m.get(node, name)
			if got, ok := x.Get(node, name); got != want || ok != there {
				t.Fatalf("Get(%v, %q): %v %v, want %v %v", node, name, got, ok, want, there)
			}
			if got := x.Value(node, name); got != want.Value {
				t.Fatalf("Value(%v, %q): %q, want %q", node, name, got, want.Value)
			}
		}
	}
}

// edges are stamps that are right, rising, and some that are not; the root is none of them.
func edges() (right, wrong []api.Stamp) {
	right = []api.Stamp{stamp(1, 0), stamp(1, 63), stamp(7, 5), stamp(7, 6), stamp(api.MaxCount, 0), stamp(api.MaxCount, 63)}
	wrong = []api.Stamp{
		stamp(0, 1), stamp(0, 2), stamp(0, 63), stamp(0, -1), stamp(-1, 0), stamp(-1, 1), stamp(1, -1), stamp(1, 64), stamp(api.MaxCount+1, 0), stamp(api.MaxCount, 64),
		stamp(math.MaxInt, 0), stamp(math.MinInt, 0), stamp(1, math.MaxInt), stamp(1, math.MinInt), stamp(math.MaxInt, math.MaxInt), stamp(math.MinInt, math.MinInt),
	}
	return right, wrong
}

// names are some of a node's names, rising by bytes, the text's first.
func names() []string {
	return []string{"", "a", "a-", "a-b", "a0", "a1", "aa", "b", strings.Repeat("z", 31), strings.Repeat("z", api.MaxName)}
}

// The example

func TestExample(t *testing.T) {
	n := stamp(1, 0)
	x := regsOf(t, reg(n, "class", stamp(3, 0), "a"), reg(n, "class", stamp(2, 1), "b"))
	if got := x.Value(n, "class"); got != "a" {
		t.Errorf("%q", got)
	}
	mustPut(t, x, gone(n, "class", stamp(3, 1)))
	if got := x.Value(n, "class"); got != "" {
		t.Errorf("%q", got)
	}
	if r, ok := x.Get(n, "class"); !ok || r != gone(n, "class", stamp(3, 1)) {
		t.Errorf("%v %v", r, ok)
	}
	for a := range x.Each(n) {
		t.Errorf("%v", a)
	}
}

// P13.1: Check

func TestCheckOK(t *testing.T) {
	right, _ := edges()
	for _, node := range append(right, root) {
		for _, at := range right {
			for _, name := range names() {
				for _, value := range []string{"", "a", "\x00\xff\n", strings.Repeat("x", api.MaxValue-1), strings.Repeat("x", api.MaxValue)} {
					if e := Check(reg(node, name, at, value)); e != api.OK {
						t.Errorf("%v %q %v, %d bytes: %d", node, name, at, len(value), e)
					}
				}
				if e := Check(gone(node, name, at)); e != api.OK {
					t.Errorf("%v %q %v, gone: %d", node, name, at, e)
				}
			}
		}
	}
}

// A fault is one way of making a right register's content wrong. They stand in the order of the reasons that Check names.
type fault struct {
	reason int
	e      api.Errno
	spoil  func(r *api.Reg)
}

func faults() []fault {
	var out []fault
	_, wrong := edges()
	for _, s := range wrong {
		out = append(out, fault{1, api.ErrForm, func(r *api.Reg) { r.Node = s }})
		out = append(out, fault{1, api.ErrForm, func(r *api.Reg) { r.At = s }})
	}
	out = append(out, fault{1, api.ErrForm, func(r *api.Reg) { r.At = root }})
	for _, name := range []string{"A", "-", "1", "-a", "aB", "a b", " ", "a_b", "\x00", "a\xff", "\u00e4", "a.", strings.Repeat("a", api.MaxName+1), strings.Repeat("a", 1<<16)} {
		out = append(out, fault{2, api.ErrName, func(r *api.Reg) { r.Name = name }})
	}
	for _, n := range []int{api.MaxValue + 1, api.MaxValue + 2, 1 << 16} {
		value := strings.Repeat("v", n)
		out = append(out, fault{3, api.ErrLong, func(r *api.Reg) { r.Value = value }})
		out = append(out, fault{3, api.ErrLong, func(r *api.Reg) { r.Value, r.Gone = value, true }})
	}
	for _, value := range []string{"a", "\x00", strings.Repeat("x", api.MaxValue)} {
		out = append(out, fault{4, api.ErrForm, func(r *api.Reg) { r.Value, r.Gone = value, true }})
	}
	return out
}

func samples() []api.Reg {
	return []api.Reg{
		reg(root, "", stamp(3, 1), ""), reg(root, "class", stamp(3, 1), "a"), reg(stamp(2, 2), "", stamp(3, 1), "text"),
		reg(stamp(9, 0), "id", stamp(3, 1), "of an earlier moment than its node"), gone(stamp(2, 2), "", stamp(3, 1)), gone(root, "class", stamp(3, 1)),
	}
}

func TestCheckRefuses(t *testing.T) {
	for _, good := range samples() {
		if e := Check(good); e != api.OK {
			t.Fatalf("%v: %d", good, e)
		}
		for i, f := range faults() {
			r := good
			f.spoil(&r)
			if e := Check(r); e != f.e {
				t.Errorf("%v, fault %d: %d, want %d", good, i, e, f.e)
			}
		}
	}
}

// Of two faults the one counts that the chapter names first.
func TestTheFirstReasonCounts(t *testing.T) {
	all := faults()
	for _, good := range samples() {
		for i, f := range all {
			for k, g := range all[i+1:] {
				// A later one of the same reason may take an earlier one back, one that turns the value likewise.
				if f.reason == g.reason || f.reason == 3 {
					continue
				}
				r := good
				f.spoil(&r)
				g.spoil(&r)
				if e := Check(r); e != f.e {
					t.Fatalf("%v, faults %d and %d: %d, want %d", good, i, i+1+k, e, f.e)
				}
			}
		}
	}
}

// P13.1: Wins

func TestWins(t *testing.T) {
	n := stamp(1, 0)
	// Each one wins over all ahead of it.
	rising := []api.Reg{
		gone(n, "a", stamp(1, 0)), reg(n, "a", stamp(1, 0), ""), reg(n, "a", stamp(1, 0), "\x00"), reg(n, "a", stamp(1, 0), "A"), reg(n, "a", stamp(1, 0), "a"),
		reg(n, "a", stamp(1, 0), "a\x00"), reg(n, "a", stamp(1, 0), "aa"), reg(n, "a", stamp(1, 0), "b"), reg(n, "a", stamp(1, 0), "\u00e4"), reg(n, "a", stamp(1, 0), "\xff"),
		reg(n, "a", stamp(1, 1), "a"), gone(n, "a", stamp(2, 0)), reg(n, "a", stamp(2, 0), ""), gone(n, "a", stamp(10, 0)), gone(n, "a", stamp(10, 9)), reg(n, "a", stamp(10, 10), "a"),
	}
	for i, a := range rising {
		for k, b := range rising {
			if Wins(a, b) != (i > k) {
				t.Errorf("Wins(%v, %v): %v", a, b, Wins(a, b))
			}
		}
	}
}

// Whatever their nodes and names, and whether they are right or not.
func TestWinsOfAny(t *testing.T) {
	right, wrong := edges()
	var all []api.Reg
	for _, at := range slices.Concat(right, wrong, []api.Stamp{root}) {
		for _, value := range []string{"", "a", "b", strings.Repeat("b", api.MaxValue+1)} {
			for _, isGone := range []bool{false, true} {
				all = append(all, api.Reg{At: at, Value: value, Gone: isGone})
			}
		}
	}
	for _, a := range all {
		for i, b := range all {
			want := beats(a, b)
			a.Node, b.Node = stamp(i, i%5), stamp(3, -1)
			a.Name, b.Name = "A", strings.Repeat("z", i%40)
			if Wins(a, b) != want {
				t.Fatalf("Wins(%v, %v): %v", a, b, Wins(a, b))
			}
			a.Node, b.Node, a.Name, b.Name = b.Node, a.Node, b.Name, a.Name
			if Wins(a, b) != want {
				t.Fatalf("Wins(%v, %v): %v", a, b, Wins(a, b))
			}
		}
	}
}

func TestOfTwoAlikeNoneWins(t *testing.T) {
	for _, r := range append(samples(), api.Reg{}, api.Reg{Gone: true, Value: "a"}) {
		if Wins(r, r) {
			t.Errorf("%v wins over itself", r)
		}
	}
	// Of two that are gone neither wins, whatever else is said of them.
	a, b := api.Reg{At: stamp(1, 0), Gone: true, Value: "a"}, api.Reg{At: stamp(1, 0), Gone: true, Value: "b"}
	if Wins(a, b) || Wins(b, a) {
		t.Error("a value of what is gone")
	}
}

// P13.2

func TestNewHasNothing(t *testing.T) {
	x, other := New(), New()
	if x == nil || other == nil {
		t.Fatal("nil")
	}
	wantModel(t, x, nil)
	mustPut(t, x, samples()...)
	wantModel(t, other, nil, stamp(2, 2))
}

func TestPutTakesWhatIsRight(t *testing.T) {
	right, wrong := edges()
	for _, node := range append(right, root) {
		for _, at := range right {
			for _, name := range names() {
				for _, r := range []api.Reg{reg(node, name, at, strings.Repeat("v", api.MaxValue)), reg(node, name, at, ""), gone(node, name, at)} {
					x := New()
					if e := x.Put(r); e != api.OK {
						t.Fatalf("Put(%v): %d", r, e)
					}
					wantModel(t, x, model{r}, append(right, wrong...)...)
				}
			}
		}
	}
}

func TestPutRefusesWhatIsNotRight(t *testing.T) {
	right, wrong := edges()
	some := append(right, wrong...)
	for _, was := range []model{nil, samples()} {
		x := regsOf(t, was...)
		for _, good := range samples() {
			good.At = stamp(50, 5)
			for i, f := range faults() {
				r := good
				f.spoil(&r)
				if e := x.Put(r); e != f.e {
					t.Errorf("%v, fault %d: %d, want %d", good, i, e, f.e)
				}
			}
		}
		wantModel(t, x, was, some...)
	}
}

func TestPutKeepsWhatWins(t *testing.T) {
	n := stamp(4, 1)
	for _, name := range []string{"", "class"} {
		x := New()
		for _, step := range []struct{ put, want api.Reg }{
			{reg(n, name, stamp(5, 1), "b"), reg(n, name, stamp(5, 1), "b")},
			{reg(n, name, stamp(5, 0), "c"), reg(n, name, stamp(5, 1), "b")},
			{gone(n, name, stamp(4, 63)), reg(n, name, stamp(5, 1), "b")},
			{gone(n, name, stamp(5, 1)), reg(n, name, stamp(5, 1), "b")},
			{reg(n, name, stamp(5, 1), "a"), reg(n, name, stamp(5, 1), "b")},
			{reg(n, name, stamp(5, 1), "b"), reg(n, name, stamp(5, 1), "b")},
			{reg(n, name, stamp(5, 1), "bb"), reg(n, name, stamp(5, 1), "bb")},
			{gone(n, name, stamp(5, 2)), gone(n, name, stamp(5, 2))},
			{reg(n, name, stamp(5, 1), "z"), gone(n, name, stamp(5, 2))},
			{gone(n, name, stamp(5, 2)), gone(n, name, stamp(5, 2))},
			{reg(n, name, stamp(5, 2), ""), reg(n, name, stamp(5, 2), "")},
			{reg(n, name, stamp(10, 0), ""), reg(n, name, stamp(10, 0), "")},
			{reg(n, name, stamp(9, 0), "z"), reg(n, name, stamp(10, 0), "")},
		} {
			mustPut(t, x, step.put)
			wantModel(t, x, model{step.want})
		}
	}
}

func TestMerge(t *testing.T) {
	n, m := stamp(1, 0), stamp(2, 0)
	inX := model{reg(n, "a", stamp(3, 0), "x"), reg(n, "b", stamp(9, 0), "x"), reg(n, "", stamp(4, 0), "x"), gone(m, "a", stamp(5, 0)), reg(m, "b", stamp(5, 0), "x"), reg(root, "", stamp(5, 0), "x")}
	inY := model{reg(n, "a", stamp(4, 0), "y"), reg(n, "b", stamp(8, 0), "y"), reg(n, "", stamp(4, 0), "y"), reg(m, "a", stamp(5, 0), ""), gone(m, "b", stamp(5, 1)), reg(m, "c", stamp(5, 0), "y"), reg(stamp(3, 0), "", stamp(1, 0), "y")}
	want := []api.Reg{
		reg(root, "", stamp(5, 0), "x"), reg(n, "", stamp(4, 0), "y"), reg(n, "a", stamp(4, 0), "y"), reg(n, "b", stamp(9, 0), "x"),
		reg(m, "a", stamp(5, 0), ""), gone(m, "b", stamp(5, 1)), reg(m, "c", stamp(5, 0), "y"), reg(stamp(3, 0), "", stamp(1, 0), "y"),
	}
	x, y := regsOf(t, inX...), regsOf(t, inY...)
	if e := x.Merge(y); e != api.OK {
		t.Fatal(e)
	}
	if got := x.All(); !slices.Equal(got, want) {
		t.Errorf("%v, want %v", got, want)
	}
	wantModel(t, x, append(slices.Clone(inX), inY...))
	wantModel(t, y, inY)
	// Neither do they share anything from then on.
	mustPut(t, x, reg(n, "c", stamp(20, 0), "x"), reg(stamp(3, 0), "a", stamp(20, 0), "x"))
	wantModel(t, y, inY, n)
	mustPut(t, y, reg(n, "d", stamp(21, 0), "y"), reg(stamp(3, 0), "b", stamp(21, 0), "y"))
	if _, ok := x.Get(stamp(3, 0), "b"); ok || x.Value(n, "d") != "" || x.Value(stamp(3, 0), "a") != "x" {
		t.Error("shared")
	}
}

func TestMergeOfNone(t *testing.T) {
	x := regsOf(t, samples()...)
	for _, y := range []*Regs{nil, New(), x} {
		if e := x.Merge(y); e != api.OK {
			t.Error(e)
		}
		wantModel(t, x, samples())
	}
	y := New()
	if e := y.Merge(x); e != api.OK {
		t.Error(e)
	}
	wantModel(t, y, samples())
}

// P13.3

func TestGetAndValue(t *testing.T) {
	n := stamp(3, 1)
	x := regsOf(t, reg(n, "class", stamp(5, 0), "a"), gone(n, "id", stamp(6, 0)), reg(n, "", stamp(7, 0), ""), reg(root, "lang", stamp(8, 0), "de"))
	for _, want := range x.All() {
		if got, ok := x.Get(want.Node, want.Name); !ok || got != want || x.Value(want.Node, want.Name) != want.Value {
			t.Errorf("%v %v, want %v", got, ok, want)
		}
	}
	_, wrong := edges()
	for _, node := range append(wrong, root, stamp(3, 0), stamp(1, 3), stamp(5, 0)) {
		for _, name := range []string{"", "class", "id", "-", "A", "Class", "class ", strings.Repeat("a", 1<<12)} {
			if got, ok := x.Get(node, name); ok || got != (api.Reg{}) || x.Value(node, name) != "" {
				t.Errorf("Get(%v, %.20q): %v %v", node, name, got, ok)
			}
		}
	}
}

func TestEach(t *testing.T) {
	n := stamp(3, 1)
	x := New()
	var want []api.Attr
	for i, name := range slices.Backward(names()) {
		mustPut(t, x, reg(n, name, stamp(5+i, 0), "v"+name), reg(stamp(3, 0), name, stamp(5, 0), "another one's"), gone(root, name, stamp(5, 0)))
		if name != "" {
			want = append(want, api.Attr{Name: name, Value: "v" + name})
		}
	}
	slices.Reverse(want)
	wantEach := func(want ...api.Attr) {
		t.Helper()
		if got := slices.Collect(x.Each(n)); !slices.Equal(got, want) {
			t.Errorf("%v, want %v", got, want)
		}
	}
	wantEach(want...)
	mustPut(t, x, gone(n, "a-b", stamp(50, 0)), gone(n, "b", stamp(50, 0)))
	want = slices.DeleteFunc(want, func(a api.Attr) bool { return a.Name == "a-b" || a.Name == "b" })
	wantEach(want...)
	// An empty value is one.
	mustPut(t, x, reg(n, "b", stamp(51, 0), ""))
	wantEach(slices.Insert(want, 5, api.Attr{Name: "b"})...)
	for a := range x.Each(root) {
		t.Errorf("%v is gone", a)
	}
}

func TestEachMayBeLeftAndGoneOverAgain(t *testing.T) {
	n := stamp(1, 0)
	each := regsOf(t, reg(n, "c", stamp(2, 0), "3"), reg(n, "", stamp(2, 0), "0"), reg(n, "a", stamp(2, 0), "1"), reg(n, "d", stamp(2, 0), "4"), reg(n, "b", stamp(2, 0), "2")).Each(n)
	for n := range 6 {
		var got []string
		for a := range each {
			if len(got) == n {
				break
			}
			got = append(got, a.Name+a.Value)
		}
		if want := []string{"a1", "b2", "c3", "d4"}[:min(n, 4)]; !slices.Equal(got, want) {
			t.Errorf("left behind %d: %v", n, got)
		}
	}
	// One within another.
	pairs := 0
	for range each {
		for range each {
			pairs++
		}
	}
	if pairs != 16 {
		t.Errorf("%d pairs", pairs)
	}
}

func TestEachIsAsAtTheCall(t *testing.T) {
	n := stamp(1, 0)
	x := regsOf(t, reg(n, "b", stamp(2, 0), "2"), reg(n, "a", stamp(2, 0), "1"), gone(n, "c", stamp(2, 0)))
	each, none := x.Each(n), x.Each(stamp(9, 9))
	turn := func(count int) {
		mustPut(t, x, reg(n, "a", stamp(count, 0), "other"), gone(n, "b", stamp(count, 0)), reg(n, "c", stamp(count, 0), "new"), reg(n, "a"+strconv.Itoa(count), stamp(2, 0), "new"), reg(stamp(9, 9), "a", stamp(count, 0), "new"))
	}
	turn(10)
	want := []api.Attr{{Name: "a", Value: "1"}, {Name: "b", Value: "2"}}
	for i := range 2 {
		var got []api.Attr
		for a := range each {
			got = append(got, a)
			turn(20 + i)
		}
		if !slices.Equal(got, want) {
			t.Errorf("%v", got)
		}
	}
	for a := range none {
		t.Errorf("%v", a)
	}
	now := []api.Attr{{Name: "a", Value: "other"}, {Name: "a10", Value: "new"}, {Name: "a20", Value: "new"}, {Name: "a21", Value: "new"}, {Name: "c", Value: "new"}}
	if got := slices.Collect(x.Each(n)); !slices.Equal(got, now) {
		t.Errorf("%v", got)
	}
}

func TestEachIsNeverNil(t *testing.T) {
	right, wrong := edges()
	for _, x := range []*Regs{nil, New(), regsOf(t, samples()...)} {
		for _, node := range slices.Concat(right, wrong, []api.Stamp{root}) {
			if x.Each(node) == nil {
				t.Errorf("Each(%v)", node)
			}
		}
	}
}

// By numbers, not by their digits; the root first; names by bytes, the text ahead of them.
func TestAllIsInTheOrderOfRegisters(t *testing.T) {
	nodes := []api.Stamp{root, stamp(1, 0), stamp(1, 9), stamp(1, 10), stamp(2, 0), stamp(9, 63), stamp(10, 0), stamp(api.MaxCount, 63)}
	var want []api.Reg
	for i, node := range nodes {
		for k, name := range names() {
			r := reg(node, name, stamp(1+(7*i+5*k)%11, k), "v")
			if (i+k)%3 == 0 {
				r = gone(node, name, r.At)
			}
			want = append(want, r)
		}
	}
	for seed := range int64(20) {
		l := slices.Clone(want)
		rand.New(rand.NewSource(seed)).Shuffle(len(l), func(i, k int) { l[i], l[k] = l[k], l[i] })
		if got := regsOf(t, l...).All(); !slices.Equal(got, want) {
			t.Fatalf("seed %d: %v", seed, got)
		}
	}
}

func TestCloneSharesNothing(t *testing.T) {
	n := stamp(1, 0)
	was := model{reg(n, "a", stamp(2, 0), "1"), gone(n, "b", stamp(2, 0)), reg(n, "", stamp(2, 0), "t"), reg(root, "c", stamp(2, 0), "3")}
	x := regsOf(t, was...)
	c := x.Clone()
	wantModel(t, c, was)
	more := model{reg(n, "a", stamp(3, 0), "2"), reg(n, "b", stamp(3, 0), "x"), reg(n, "", stamp(3, 0), "x"), reg(n, "d", stamp(3, 0), "x"), reg(stamp(2, 0), "a", stamp(3, 0), "x"), gone(root, "c", stamp(3, 0))}
	mustPut(t, x, more...)
	wantModel(t, x, append(slices.Clone(was), more...))
	wantModel(t, c, was, stamp(2, 0))
	other := model{reg(n, "a", stamp(4, 0), "y"), reg(n, "e", stamp(4, 0), "y"), reg(stamp(3, 0), "a", stamp(4, 0), "y")}
	mustPut(t, c, other...)
	wantModel(t, c, append(slices.Clone(was), other...))
	wantModel(t, x, append(slices.Clone(was), more...), stamp(3, 0))
	wantModel(t, New().Clone(), nil)
}

// Lists that have room behind their end: two that go on from the same registers do not write into one another's.
func TestClonesGoOnApart(t *testing.T) {
	n := stamp(1, 0)
	for many := 1; many < 12; many++ {
		x, m := New(), model{}
		put := func(x *Regs, m model, name, value string) model {
			r := reg(n, name, stamp(2, 0), value)
			mustPut(t, x, r)
			return append(slices.Clip(m), r)
		}
		for i := range many {
			m = put(x, m, "n"+strconv.Itoa(i), "")
		}
		c, k := x.Clone(), slices.Clone(m)
		for i := range 3 {
			m, k = put(x, m, "x"+strconv.Itoa(i), "x"), put(c, k, "c"+strconv.Itoa(i), "c")
		}
		wantModel(t, x, m)
		wantModel(t, c, k)
	}
}

func TestNilRegs(t *testing.T) {
	var x *Regs
	right, wrong := edges()
	for _, good := range samples() {
		if e := x.Put(good); e != api.ErrState {
			t.Errorf("Put(%v) of nil: %d", good, e)
		}
		// Ahead of all that Check says.
		for i, f := range faults() {
			r := good
			f.spoil(&r)
			if e := x.Put(r); e != api.ErrState {
				t.Errorf("%v, fault %d, of nil: %d", good, i, e)
			}
		}
	}
	y := regsOf(t, samples()...)
	for _, from := range []*Regs{nil, New(), y} {
		if e := x.Merge(from); e != api.ErrState {
			t.Errorf("Merge of nil: %d", e)
		}
	}
	wantModel(t, y, samples())
	wantModel(t, x, nil, append(right, wrong...)...)
	if x.Clone() != nil {
		t.Error("a clone of nil")
	}
}

func TestAnswersAreNewMemory(t *testing.T) {
	x := regsOf(t, samples()...)
	each := x.Each(root)
	for range 2 {
		l := x.All()
		for i := range l {
			l[i] = reg(stamp(77, 7), "spoilt", stamp(78, 7), "x")
		}
		_ = append(l, api.Reg{})
		wantModel(t, x, samples())
	}
	if got := slices.Collect(each); !slices.Equal(got, model(samples()).attrs(root)) {
		t.Errorf("%v", got)
	}
}

// P13.4 to P13.7

// orders tells all orders of n numbers.
func orders(n int) [][]int {
	if n == 0 {
		return [][]int{nil}
	}
	var out [][]int
	for _, o := range orders(n - 1) {
		for i := range n {
			out = append(out, slices.Insert(slices.Clone(o), i, n-1))
		}
	}
	return out
}

func TestAllOrdersOfFew(t *testing.T) {
	n := stamp(1, 0)
	few := model{reg(n, "a", stamp(2, 0), "x"), reg(n, "a", stamp(2, 0), "y"), gone(n, "a", stamp(2, 0)), gone(n, "a", stamp(1, 5)), reg(n, "", stamp(2, 0), "z"), gone(n, "", stamp(2, 1))}
	for _, o := range orders(len(few)) {
		x, part := New(), model{}
		for _, i := range o {
			mustPut(t, x, few[i])
			part = append(part, few[i])
			wantModel(t, x, part)
		}
		if !slices.Equal(x.All(), []api.Reg{gone(n, "", stamp(2, 1)), reg(n, "a", stamp(2, 0), "y")}) {
			t.Fatalf("%v: %v", o, x.All())
		}
	}
}

// player puts what comes to its mind, of few nodes, names, moments and values, so that much of it meets.
type player struct {
	*rand.Rand
	nodes, names, counts int
}

func newPlayer(seed int64) player {
	return player{rand.New(rand.NewSource(seed)), 1 + int(seed%4), 1 + int(seed%5), 2 + int(seed%7)}
}

func (p player) reg() api.Reg {
	r := api.Reg{Node: stamp(p.Intn(p.nodes), 0), Name: names()[p.Intn(p.names)], At: stamp(1+p.Intn(p.counts), p.Intn(2))}
	switch p.Intn(3) {
	case 0:
		r.Gone = true
	case 1:
		r.Value = []string{"a", "b", "ab", "\xff", "\x00"}[p.Intn(5)]
	}
	return r
}

func (p player) regs(n int) model {
	var out model
	for range n {
		out = append(out, p.reg())
	}
	return out
}

// shuffled tells the registers in which all of m was put in some order, part of it more than once.
func (p player) shuffled(t testing.TB, m model) *Regs {
	t.Helper()
	x := New()
	for _, i := range p.Perm(len(m)) {
		mustPut(t, x, m[i])
		if p.Intn(4) == 0 {
			mustPut(t, x, m[i], m[p.Intn(len(m))])
		}
	}
	return x
}

func TestManyRunsAreAsTheModel(t *testing.T) {
	for seed := range int64(150) {
		p := newPlayer(seed)
		x, m := New(), model{}
		for range 60 {
			switch p.Intn(8) {
			case 0:
				x = x.Clone()
			case 1:
				more := p.regs(5)
				if e := x.Merge(regsOf(t, more...)); e != api.OK {
					t.Fatal(e)
				}
				m = append(m, more...)
			case 2:
				r := p.reg()
				faults()[p.Intn(len(faults()))].spoil(&r)
				if e := x.Put(r); e == api.OK {
					t.Fatalf("seed %d: Put(%v)", seed, r)
				}
			default:
				r := p.reg()
				mustPut(t, x, r)
				m = append(m, r)
			}
			if p.Intn(4) == 0 {
				wantModel(t, x, m)
			}
		}
		wantModel(t, x, m)
	}
}

func TestTheOrderOfPutsSaysNothing(t *testing.T) {
	for seed := range int64(60) {
		p := newPlayer(seed)
		m := p.regs(80)
		want := regsOf(t, m...).All()
		for range 5 {
			if got := p.shuffled(t, m).All(); !slices.Equal(got, want) {
				t.Fatalf("seed %d: %v and %v", seed, got, want)
			}
		}
	}
}

func mustMerge(t testing.TB, x *Regs, from ...*Regs) *Regs {
	t.Helper()
	out := x.Clone()
	for _, y := range from {
		if e := out.Merge(y); e != api.OK {
			t.Fatal(e)
		}
	}
	return out
}

func TestMergeIsTheSameEachWayRound(t *testing.T) {
	for seed := range int64(80) {
		p := newPlayer(seed)
		var parts []*Regs
		var all model
		for range 3 {
			m := p.regs(p.Intn(25))
			parts, all = append(parts, regsOf(t, m...)), append(all, m...)
		}
		a, b, c := parts[0], parts[1], parts[2]
		if x, y := mustMerge(t, a, b), mustMerge(t, b, a); !slices.Equal(x.All(), y.All()) {
			t.Fatalf("seed %d: %v and %v", seed, x.All(), y.All())
		}
		// Whatever is merged first, also what is merged already.
		for _, x := range []*Regs{
			mustMerge(t, a, b, c), mustMerge(t, a, c, b), mustMerge(t, b, a, c), mustMerge(t, c, b, a), mustMerge(t, New(), c, a, b),
			mustMerge(t, a, mustMerge(t, b, c)), mustMerge(t, mustMerge(t, c, b), mustMerge(t, b, a)), mustMerge(t, a, b, b, c, a, c),
		} {
			wantModel(t, x, all)
			once := x.All()
			if e := x.Merge(x); e != api.OK || !slices.Equal(x.All(), once) || !slices.Equal(mustMerge(t, x, a, b, c, x.Clone()).All(), once) {
				t.Fatalf("seed %d: once more changes something", seed)
			}
		}
	}
}

func TestNothingThatWasPutWins(t *testing.T) {
	for seed := range int64(60) {
		p := newPlayer(seed)
		x := New()
		var m model
		for range 100 {
			m = append(m, p.reg())
			mustPut(t, x, m[len(m)-1])
			for _, r := range m {
				if has, ok := x.Get(r.Node, r.Name); !ok || Wins(r, has) || !slices.Contains(m, has) {
					t.Fatalf("seed %d: %v was put, %v %v is there", seed, r, has, ok)
				}
			}
		}
	}
}

func TestPutChangesNoOtherRegister(t *testing.T) {
	for seed := range int64(60) {
		p := newPlayer(seed)
		x := regsOf(t, p.regs(20)...)
		for range 60 {
			r := p.reg()
			isAnother := func(o api.Reg) bool { return o.Node != r.Node || o.Name != r.Name }
			others := func() []api.Reg {
				return slices.DeleteFunc(x.All(), func(o api.Reg) bool { return !isAnother(o) })
			}
			was := others()
			mustPut(t, x, r)
			if got := others(); !slices.Equal(got, was) {
				t.Fatalf("seed %d: Put(%v): of %v comes %v", seed, r, was, got)
			}
		}
	}
}

// Many

// Many names of one node, many nodes of one name: none is found by going over all the others.
func TestManyRegisters(t *testing.T) {
	const many = 1 << 15
	x := New()
	n := stamp(1, 0)
	for i := many; i >= 1; i-- {
		mustPut(t, x, reg(n, "n"+strconv.Itoa(many+i), stamp(i, 1), "v"), reg(stamp(many+i, 0), "a", stamp(i, 1), "w"))
	}
	i := 0
	for a := range x.Each(n) {
		i++
		if a != (api.Attr{Name: "n" + strconv.Itoa(many+i), Value: "v"}) {
			t.Fatalf("at %d: %v", i, a)
		}
	}
	if i != many {
		t.Errorf("%d attributes", i)
	}
	for i := 1; i <= many; i++ {
		node := stamp(many+i, 0)
		if got := slices.Collect(x.Each(node)); len(got) != 1 || got[0] != (api.Attr{Name: "a", Value: "w"}) || x.Value(node, "a") != "w" {
			t.Fatalf("Each(%v): %v", node, got)
		}
	}
	all := x.All()
	if len(all) != 2*many || all[0].Name != "n"+strconv.Itoa(many+1) || all[2*many-1].Node != stamp(2*many, 0) {
		t.Errorf("%d registers", len(all))
	}
	if c := x.Clone(); c.Merge(x) != api.OK || !slices.Equal(c.All(), all) {
		t.Error("another one")
	}
}

// Of what did not win nothing is kept.
func TestNothingIsKeptOfWhatLost(t *testing.T) {
	for seed := range int64(20) {
		p := newPlayer(seed)
		m := p.regs(200)
		x := p.shuffled(t, m)
		if len(x.has) != len(m.all()) {
			t.Fatalf("seed %d: %d, not %d", seed, len(x.has), len(m.all()))
		}
		known := 0
		for node, l := range x.names {
			known += len(l)
			if sorted := slices.Sorted(slices.Values(l)); len(slices.Compact(sorted)) != len(l) || len(l) == 0 {
				t.Fatalf("seed %d: %v: %v", seed, node, l)
			}
		}
		if known != len(x.has) {
			t.Fatalf("seed %d: %d names of %d", seed, known, len(x.has))
		}
	}
}

// Of any bytes: each three of them are one that is put.
func FuzzAnyCalls(f *testing.F) {
	f.Add([]byte{0x11, 0x05, 1, 0x11, 0x05, 2, 0x11, 0x85, 0})
	f.Add([]byte{0, 1, 9, 0x72, 0, 1, 0x44, 0xff, 0})
	f.Add([]byte{0x21, 0x12, 200, 0x21, 0x12, 0, 0x21, 0x92, 0, 0xf1, 0x12, 7})
	f.Fuzz(func(t *testing.T, b []byte) {
		if len(b) > 240 {
			return
		}
		x, y, m := New(), New(), model{}
		for ; len(b) >= 3; b = b[3:] {
			r := api.Reg{Node: stamp(int(b[0]&3), int(b[0]>>2)&3), Name: append(names(), "A")[int(b[0]>>4)%11], At: stamp(int(b[1]&15), int(b[1]>>4)&7), Gone: b[1] >= 0x80}
			if !r.Gone || b[2] > 200 {
				r.Value = strings.Repeat("v", int(b[2])*2)
			}
			e := x.Put(r)
			if e != Check(r) || e != y.Put(r) {
				t.Fatalf("Put(%v): %d", r, e)
			}
			if e == api.OK {
				m = append(m, r)
			}
			if b[2]&7 == 0 {
				x.Merge(y)
				y = x.Clone()
				wantModel(t, x, m)
			}
		}
		wantModel(t, x, m)
		wantModel(t, y, m)
	})
}
