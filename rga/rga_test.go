package rga

import (
	"maps"
	"math"
	"math/rand"
	"slices"
	"strings"
	"testing"

	"topiary/api"
	"topiary/ident"
)

func stamp(count, replica int) api.Stamp { return api.Stamp{Count: count, Replica: replica} }

var none = api.Stamp{}

// read tells the stamps of a text in which blanks part them; a hyphen is none.
func read(t testing.TB, text string) []api.Stamp {
	t.Helper()
	var out []api.Stamp
	for _, f := range strings.Fields(text) {
		if f == "-" {
			out = append(out, none)
			continue
		}
		s, e := ident.Parse(f)
		if e != api.OK {
			t.Fatalf("%q: %d", f, e)
		}
		out = append(out, s)
	}
	return out
}

func written(l []api.Stamp) string {
	var out []string
	for _, s := range l {
		text, e := ident.Text(s)
		if e != api.OK {
			text = "no stamp"
		}
		out = append(out, text)
	}
	return strings.Join(out, " ")
}

// mustAdd adds slots, each one as a text of its stamp and of the one behind which it is put.
func mustAdd(t testing.TB, r *Row, texts ...string) {
	t.Helper()
	for _, text := range texts {
		s := read(t, text)
		if e := r.Add(s[0], s[1]); e != api.OK {
			t.Fatalf("Add(%s): %d", text, e)
		}
	}
}

func rowOf(t testing.TB, texts ...string) *Row {
	t.Helper()
	r := New()
	mustAdd(t, r, texts...)
	return r
}

func wantOrder(t testing.TB, r *Row, want string) {
	t.Helper()
	if got := written(r.Order()); got != want {
		t.Errorf("order: %q, want %q", got, want)
	}
}

func wantAhead(t testing.TB, r *Row, at, want string) {
	t.Helper()
	if got, ok := r.Ahead(read(t, at)[0]); !ok || got != read(t, want)[0] {
		t.Errorf("Ahead(%s): %v %v, want %s", at, got, ok, want)
	}
}

// model is the chapter's row in its plainest form: of each slot the one behind which it was put.
type model map[api.Stamp]api.Stamp

func (m model) has(at api.Stamp) bool {
	_, ok := m[at]
	return ok
}

func (m model) add(at, after api.Stamp) api.Errno {
	if !ident.Right(at) || after != none && (!ident.Right(after) || ident.Compare(after, at) >= 0) {
		return api.ErrForm
	}
	if m.has(at) {
		return api.ErrTwice
	}
	m[at] = after
	return api.OK
}

// under tells those that stand under that slot, or under the front, and all that stand under each, in the row's order.
func (m model) under(parent api.Stamp) []api.Slot {
	var kids []api.Stamp
	for at, after := range m {
		if after == parent || parent == none && !m.has(after) {
			kids = append(kids, at)
		}
	}
	slices.SortFunc(kids, func(a, b api.Stamp) int { return ident.Compare(b, a) })
	var out []api.Slot
	for _, at := range kids {
		out = append(out, api.Slot{At: at, After: m[at]})
		out = append(out, m.under(at)...)
	}
	return out
}

// wantModel asks r all that can be asked of these stamps, and of all that the model knows.
func wantModel(t testing.TB, r *Row, m model, some ...api.Stamp) {
	t.Helper()
	want := m.under(none)
	if r.Len() != len(m) {
		t.Fatalf("%v: Len: %d, not %d", m, r.Len(), len(m))
	}
	if got := slices.Collect(r.Each()); !slices.Equal(got, want) {
		t.Fatalf("%v: Each: %v, want %v", m, got, want)
	}
	order := r.Order()
	if len(order) != len(want) {
		t.Fatalf("%v: Order: %v", m, order)
	}
	last := none
	for i, s := range want {
		if order[i] != s.At {
			t.Fatalf("%v: Order: %v", m, order)
		}
		if got, ok := r.Ahead(s.At); !ok || got != last {
			t.Fatalf("%v: Ahead(%v): %v %v, want %v", m, s.At, got, ok, last)
		}
		some = append(some, s.At, s.After)
		last = s.At
	}
	for _, s := range some {
		if r.Has(s) != m.has(s) {
			t.Fatalf("%v: Has(%v): %v", m, s, r.Has(s))
		}
		if got, ok := r.Ahead(s); ok != m.has(s) || !ok && got != none {
			t.Fatalf("%v: Ahead(%v): %v %v", m, s, got, ok)
		}
	}
}

// edges are stamps that are right, rising, and some that are not.
func edges() (right, wrong []api.Stamp) {
	right = []api.Stamp{stamp(1, 0), stamp(1, 63), stamp(7, 5), stamp(7, 6), stamp(api.MaxCount, 0), stamp(api.MaxCount, 63)}
	wrong = []api.Stamp{
		stamp(0, 1), stamp(0, 2), stamp(0, 63), stamp(0, -1), stamp(-1, 0), stamp(-1, 1), stamp(1, -1), stamp(1, 64), stamp(api.MaxCount+1, 0), stamp(api.MaxCount, 64),
		stamp(math.MaxInt, 0), stamp(math.MinInt, 0), stamp(1, math.MaxInt), stamp(1, math.MinInt), stamp(math.MaxInt, math.MaxInt), stamp(math.MinInt, math.MinInt),
	}
	return right, wrong
}

// The example

func TestExample(t *testing.T) {
	r := rowOf(t, "1.0 -", "2.0 1.0", "2.1 1.0", "3.0 2.0")
	wantOrder(t, r, "1.0 2.1 2.0 3.0")
	mustAdd(t, r, "4.1 -")
	wantOrder(t, r, "4.1 1.0 2.1 2.0 3.0")
	wantAhead(t, r, "4.1", "-")
	wantAhead(t, r, "1.0", "4.1")
}

// P12.1

func TestNewHasNoSlots(t *testing.T) {
	r, other := New(), New()
	if r == nil || other == nil {
		t.Fatal("nil")
	}
	wantModel(t, r, model{}, none, stamp(1, 0))
	mustAdd(t, r, "1.0 -", "2.0 1.0")
	wantModel(t, other, model{}, stamp(1, 0), stamp(2, 0))
}

func TestAddTakesWhatIsRight(t *testing.T) {
	right, wrong := edges()
	for i, at := range right {
		for _, after := range append([]api.Stamp{none}, right[:i]...) {
			r := New()
			if e := r.Add(at, after); e != api.OK {
				t.Errorf("Add(%v, %v): %d", at, after, e)
			}
			wantModel(t, r, model{at: after}, append(right, wrong...)...)
		}
	}
}

func TestAddRefusesWhatIsNotRight(t *testing.T) {
	right, wrong := edges()
	r := rowOf(t, "2.0 -", "5.0 2.0", "6.0 3.0")
	m := model{stamp(2, 0): none, stamp(5, 0): stamp(2, 0), stamp(6, 0): stamp(3, 0)}
	refused := func(at, after api.Stamp) {
		t.Helper()
		if e := r.Add(at, after); e != api.ErrForm {
			t.Errorf("Add(%v, %v): %d", at, after, e)
		}
	}
	refused(none, none)
	for i, at := range right {
		refused(none, at)
		// Its own stamp, and those behind it.
		for _, after := range right[i:] {
			refused(at, after)
		}
		for _, s := range wrong {
			refused(at, s)
			refused(s, at)
		}
	}
	for _, s := range wrong {
		refused(s, none)
		refused(s, s)
		refused(none, s)
	}
	wantModel(t, r, m, append(right, wrong...)...)
}

func TestAddTwice(t *testing.T) {
	r := rowOf(t, "2.0 -", "5.0 2.0", "6.0 3.0")
	for _, text := range []string{"2.0 -", "2.0 1.0", "5.0 2.0", "5.0 -", "5.0 4.0", "6.0 3.0", "6.0 5.0", "6.0 -"} {
		s := read(t, text)
		for range 2 {
			if e := r.Add(s[0], s[1]); e != api.ErrTwice {
				t.Errorf("Add(%s): %d", text, e)
			}
		}
	}
	wantModel(t, r, model{stamp(2, 0): none, stamp(5, 0): stamp(2, 0), stamp(6, 0): stamp(3, 0)})
	// Nor is anything left of what was refused when the one comes behind which it would have been.
	mustAdd(t, r, "4.0 -", "1.0 -")
	wantOrder(t, r, "6.0 4.0 2.0 5.0 1.0")
}

// A stamp that is there, behind something that is not right: the first one of the chapter's errors.
func TestFormAheadOfTwice(t *testing.T) {
	r := rowOf(t, "2.0 -")
	for _, after := range []api.Stamp{stamp(2, 0), stamp(3, 0), stamp(0, 1), stamp(1, 64), stamp(-1, 0)} {
		if e := r.Add(stamp(2, 0), after); e != api.ErrForm {
			t.Errorf("Add(2.0, %v): %d", after, e)
		}
	}
}

// P12.2

func TestHasAndLen(t *testing.T) {
	r := New()
	for i, text := range []string{"9.0 8.0", "1.0 -", "8.0 1.0", "3.2 2.0", "3.1 -"} {
		at := read(t, text)[0]
		if r.Has(at) {
			t.Errorf("%v is there already", at)
		}
		mustAdd(t, r, text)
		if !r.Has(at) || r.Len() != i+1 {
			t.Errorf("%v: %v, %d slots", at, r.Has(at), r.Len())
		}
	}
	_, wrong := edges()
	// One behind which another one was put is not there for that.
	for _, s := range append(wrong, none, stamp(2, 0), stamp(3, 0), stamp(9, 1)) {
		if r.Has(s) {
			t.Errorf("Has(%v)", s)
		}
	}
}

func TestOrder(t *testing.T) {
	for _, x := range []struct{ slots, want string }{
		{"", ""},
		{"1.0 -", "1.0"},
		{"1.0 -, 2.0 -, 3.0 -", "3.0 2.0 1.0"},
		{"2.0 -, 2.1 -, 2.63 -", "2.63 2.1 2.0"},
		{"1.0 -, 2.0 1.0, 3.0 2.0", "1.0 2.0 3.0"},
		{"1.0 -, 2.0 1.0, 3.0 1.0", "1.0 3.0 2.0"},
		{"1.0 -, 2.0 -, 3.0 1.0, 4.0 2.0", "2.0 4.0 1.0 3.0"},
		{"1.0 -, 2.0 1.0, 3.0 2.0, 4.0 1.0, 5.0 4.0, 6.0 2.0", "1.0 4.0 5.0 2.0 6.0 3.0"},
		// By numbers, not by their digits.
		{"9.0 -, 10.0 -, 10.9 -, 10.10 -", "10.10 10.9 10.0 9.0"},
		// One is not there: under the front, wherever those stand that are ahead of its stamp and behind it.
		{"5.0 4.0", "5.0"},
		{"3.0 -, 5.0 4.0, 6.0 3.0, 7.0 -", "7.0 5.0 3.0 6.0"},
		{"5.0 4.0, 6.0 4.0, 7.0 5.0, 5.1 -", "6.0 5.1 5.0 7.0"},
	} {
		r := New()
		for _, text := range strings.Split(x.slots, ",") {
			if text != "" {
				mustAdd(t, r, text)
			}
		}
		wantOrder(t, r, x.want)
	}
}

// Slots that came ahead of the one behind which they were put stand under it as soon as it is there, with all that stand under them.
func TestWhatCameTooSoon(t *testing.T) {
	r := rowOf(t, "3.0 -", "5.0 2.0", "6.0 2.0", "7.0 5.0", "2.1 -")
	wantOrder(t, r, "6.0 5.0 7.0 3.0 2.1")
	mustAdd(t, r, "2.0 1.0")
	wantOrder(t, r, "3.0 2.1 2.0 6.0 5.0 7.0")
	mustAdd(t, r, "1.0 -")
	wantOrder(t, r, "3.0 2.1 1.0 2.0 6.0 5.0 7.0")
	wantAhead(t, r, "6.0", "2.0")
	wantAhead(t, r, "5.0", "6.0")
	wantAhead(t, r, "3.0", "-")
}

func TestAhead(t *testing.T) {
	r := rowOf(t, "1.0 -", "2.0 1.0", "3.0 2.0", "4.0 1.0", "5.0 4.0", "6.0 4.0", "7.0 -", "9.0 8.0")
	wantOrder(t, r, "9.0 7.0 1.0 4.0 6.0 5.0 2.0 3.0")
	for _, x := range []string{"9.0 -", "7.0 9.0", "1.0 7.0", "4.0 1.0", "6.0 4.0", "5.0 6.0", "2.0 5.0", "3.0 2.0"} {
		at, want, _ := strings.Cut(x, " ")
		wantAhead(t, r, at, want)
	}
	_, wrong := edges()
	for _, s := range append(wrong, none, stamp(8, 0), stamp(1, 1), stamp(10, 0)) {
		if got, ok := r.Ahead(s); ok || got != none {
			t.Errorf("Ahead(%v): %v %v", s, got, ok)
		}
	}
}

func TestEachTellsWholeSlots(t *testing.T) {
	r := rowOf(t, "1.0 -", "2.0 1.0", "5.0 4.0")
	want := []api.Slot{{At: stamp(5, 0), After: stamp(4, 0)}, {At: stamp(1, 0)}, {At: stamp(2, 0), After: stamp(1, 0)}}
	if got := slices.Collect(r.Each()); !slices.Equal(got, want) {
		t.Errorf("%v", got)
	}
}

func TestEachMayBeLeftAndGoneOverAgain(t *testing.T) {
	each := rowOf(t, "1.0 -", "2.0 1.0", "3.0 2.0", "4.0 3.0").Each()
	for n := range 6 {
		var got []api.Slot
		for s := range each {
			if len(got) == n {
				break
			}
			got = append(got, s)
		}
		if len(got) != min(n, 4) {
			t.Errorf("left behind %d: %v", n, got)
		}
		for i, s := range got {
			if s.At != stamp(i+1, 0) {
				t.Errorf("at %d: %v", i, s)
			}
		}
	}
	// One within another.
	n := 0
	for range each {
		for range each {
			n++
		}
	}
	if n != 16 {
		t.Errorf("%d pairs", n)
	}
}

func TestEachIsAsTheRowWas(t *testing.T) {
	r := rowOf(t, "2.0 -", "3.0 2.0", "5.0 4.0")
	each := r.Each()
	want := []api.Slot{{At: stamp(5, 0), After: stamp(4, 0)}, {At: stamp(2, 0)}, {At: stamp(3, 0), After: stamp(2, 0)}}
	n := 0
	for range each {
		n++
		if e := r.Add(stamp(10+n, 0), stamp(2, 0)); e != api.OK {
			t.Fatal(e)
		}
	}
	mustAdd(t, r, "4.0 3.0", "6.0 -")
	if got := slices.Collect(each); n != 3 || !slices.Equal(got, want) {
		t.Errorf("%d slots, then %v", n, got)
	}
	wantOrder(t, r, "6.0 2.0 13.0 12.0 11.0 3.0 4.0 5.0")
	if New().Each() == nil {
		t.Error("nil")
	}
}

func TestCloneSharesNothing(t *testing.T) {
	r := rowOf(t, "1.0 -", "3.0 1.0", "5.0 1.0", "8.0 7.0", "9.0 7.0", "2.1 -")
	const was = "9.0 8.0 2.1 1.0 5.0 3.0"
	c := r.Clone()
	wantOrder(t, c, was)
	mustAdd(t, r, "4.0 1.0", "7.0 -", "10.0 9.0", "1.1 -", "12.0 11.0")
	wantOrder(t, r, "12.0 7.0 9.0 10.0 8.0 2.1 1.1 1.0 5.0 4.0 3.0")
	wantOrder(t, c, was)
	if c.Len() != 6 || c.Has(stamp(7, 0)) {
		t.Errorf("%d slots", c.Len())
	}
	mustAdd(t, c, "2.0 1.0", "7.0 3.0", "1.2 -", "4.0 2.1", "6.0 1.0")
	wantOrder(t, c, "2.1 4.0 1.2 1.0 6.0 5.0 3.0 7.0 9.0 8.0 2.0")
	wantOrder(t, r, "12.0 7.0 9.0 10.0 8.0 2.1 1.1 1.0 5.0 4.0 3.0")
	wantOrder(t, New().Clone(), "")
}

// Lists that have room behind their end: two that go on from one row do not write into one another's.
func TestClonesGoOnApart(t *testing.T) {
	for n := 1; n < 12; n++ {
		r, m := New(), model{}
		for i := range n {
			r.Add(stamp(10+i, 0), none)
			r.Add(stamp(100+i, 0), stamp(10, 0))
			m[stamp(10+i, 0)], m[stamp(100+i, 0)] = none, stamp(10, 0)
		}
		c, k := r.Clone(), maps.Clone(m)
		for i := range 3 {
			for _, x := range []struct {
				row     *Row
				m       model
				replica int
			}{{r, m, 1}, {c, k, 2}} {
				for _, s := range []api.Slot{{At: stamp(50+i, x.replica)}, {At: stamp(500+i, x.replica), After: stamp(10, 0)}} {
					if e := x.row.Add(s.At, s.After); e != api.OK {
						t.Fatal(e)
					}
					x.m[s.At] = s.After
				}
			}
		}
		wantModel(t, r, m)
		wantModel(t, c, k)
	}
}

func TestNilRow(t *testing.T) {
	var r *Row
	right, wrong := edges()
	all := slices.Concat(right, wrong, []api.Stamp{none})
	for _, at := range all {
		for _, after := range all {
			if e := r.Add(at, after); e != api.ErrState {
				t.Errorf("Add(%v, %v) of nil: %d", at, after, e)
			}
		}
	}
	wantModel(t, r, model{}, all...)
	if r.Each() == nil {
		t.Error("a nil iterator")
	}
	if r.Clone() != nil {
		t.Error("a clone of nil")
	}
}

func TestAnswersAreNewMemory(t *testing.T) {
	r := rowOf(t, "1.0 -", "2.0 1.0", "3.0 1.0", "5.0 4.0")
	each := r.Each()
	for range 2 {
		l := r.Order()
		for i := range l {
			l[i] = stamp(77, 7)
		}
		_ = append(l, stamp(78, 7))
		wantOrder(t, r, "5.0 1.0 3.0 2.0")
	}
	if got := slices.Collect(each); len(got) != 4 || got[0].At != stamp(5, 0) {
		t.Errorf("%v", got)
	}
	wantModel(t, r, model{stamp(1, 0): none, stamp(2, 0): stamp(1, 0), stamp(3, 0): stamp(1, 0), stamp(5, 0): stamp(4, 0)})
}

// P12.3

// orders tells all orders of n numbers.
func orders(n int) [][]int {
	if n == 0 {
		return [][]int{nil}
	}
	var out [][]int
	for _, o := range orders(n - 1) {
		for i := range n {
			out = append(out, slices.Insert(slices.Clone(o), i, n-1))
		}
	}
	return out
}

// fewRows tells all rows of slots with these rising stamps: each one put ahead of all, behind one that never comes, or behind one ahead of it.
func fewRows(ats []api.Stamp, never api.Stamp) []model {
	if len(ats) == 0 {
		return []model{{}}
	}
	rest := ats[:len(ats)-1]
	var out []model
	for _, m := range fewRows(rest, never) {
		for _, after := range append([]api.Stamp{none, never}, rest...) {
			more := maps.Clone(m)
			more[ats[len(rest)]] = after
			out = append(out, more)
		}
	}
	return out
}

// All rows of four slots, added in all orders; asked behind each.
func TestAllOrdersOfFewSlots(t *testing.T) {
	ats := []api.Stamp{stamp(2, 0), stamp(2, 1), stamp(3, 0), stamp(4, 1)}
	few := fewRows(ats, stamp(1, 9))
	if len(few) != 2*3*4*5 {
		t.Fatalf("%d rows", len(few))
	}
	for _, m := range few {
		for _, o := range orders(len(ats)) {
			r, part := New(), model{}
			for _, k := range o {
				part[ats[k]] = m[ats[k]]
				if e := r.Add(ats[k], m[ats[k]]); e != api.OK {
					t.Fatalf("Add(%v, %v): %d", ats[k], m[ats[k]], e)
				}
				wantModel(t, r, part)
			}
		}
	}
}

// player puts slots where it comes to its mind.
type player struct {
	*rand.Rand
	counts, replicas int
}

func (p player) slot() (at, after api.Stamp) {
	at = stamp(1+p.Intn(p.counts), p.Intn(p.replicas))
	if p.Intn(5) > 0 {
		after = stamp(p.Intn(p.counts), p.Intn(p.replicas))
	}
	return at, after
}

// row tells n slots at most, all of them right.
func (p player) row(n int) model {
	m := model{}
	for range n {
		m.add(p.slot())
	}
	return m
}

// shuffled tells the row of these slots, added in some order.
func (p player) shuffled(t testing.TB, m model) *Row {
	t.Helper()
	ats := slices.SortedFunc(maps.Keys(m), ident.Compare)
	p.Shuffle(len(ats), func(i, k int) { ats[i], ats[k] = ats[k], ats[i] })
	r := New()
	for _, at := range ats {
		if e := r.Add(at, m[at]); e != api.OK {
			t.Fatalf("Add(%v, %v): %d", at, m[at], e)
		}
	}
	return r
}

func TestManyRunsAreAsTheModel(t *testing.T) {
	for seed := range int64(150) {
		p := player{rand.New(rand.NewSource(seed)), 5 + int(seed%6)*8, 1 + int(seed%3)}
		r, m := New(), model{}
		for range 80 {
			at, after := p.slot()
			if e, want := r.Add(at, after), m.add(at, after); e != want {
				t.Fatalf("seed %d: Add(%v, %v): %d, want %d", seed, at, after, e, want)
			}
			switch p.Intn(4) {
			case 0:
				wantModel(t, r, m, at, after)
			case 1:
				r = r.Clone()
			}
		}
		wantModel(t, r, m)
	}
}

func TestTheOrderOfAddsSaysNothing(t *testing.T) {
	for seed := range int64(40) {
		p := player{rand.New(rand.NewSource(seed)), 200, 3}
		m := p.row(300)
		want := p.shuffled(t, m).Order()
		for range 5 {
			if got := p.shuffled(t, m).Order(); !slices.Equal(got, want) {
				t.Fatalf("seed %d: %v and %v", seed, got, want)
			}
		}
	}
}

// P12.4

func TestAddLeavesTheOrderOfOthers(t *testing.T) {
	for seed := range int64(60) {
		p := player{rand.New(rand.NewSource(seed)), 60, 2}
		r, m := New(), model{}
		kept := 0
		for range 150 {
			at, after := p.slot()
			if after != none && !m.has(after) || slices.Contains(slices.Collect(maps.Values(m)), at) {
				// Now and then one to which the promise does not speak.
				if p.Intn(4) > 0 {
					continue
				}
				r.Add(at, after)
				m.add(at, after)
				continue
			}
			was := r.Order()
			if e, want := r.Add(at, after), m.add(at, after); e != want {
				t.Fatalf("seed %d: Add(%v, %v): %d, want %d", seed, at, after, e, want)
			} else if e != api.OK {
				continue
			}
			kept++
			if got := slices.DeleteFunc(r.Order(), func(s api.Stamp) bool { return s == at }); !slices.Equal(got, was) {
				t.Fatalf("seed %d: Add(%v, %v): of %v comes %v", seed, at, after, was, got)
			}
		}
		if kept < 5 {
			t.Errorf("seed %d: %d slots alone", seed, kept)
		}
	}
}

// P12.5

func TestAllBetweenAreLater(t *testing.T) {
	for seed := range int64(60) {
		p := player{rand.New(rand.NewSource(seed)), 100, 3}
		r := p.shuffled(t, p.row(150))
		order := r.Order()
		for s := range r.Each() {
			from, to := slices.Index(order, s.After), slices.Index(order, s.At)
			if from >= to {
				t.Fatalf("seed %d: %v at %d, put behind the one at %d", seed, s, to, from)
			}
			// Of one that is put ahead of all, or behind one that is not there: all ahead of it.
			for _, x := range order[from+1 : to] {
				if !ident.Less(s.At, x) {
					t.Fatalf("seed %d: %v stands between %v", seed, x, s)
				}
			}
		}
	}
}

func TestTheLastStampStandsRightBehind(t *testing.T) {
	for seed := range int64(60) {
		p := player{rand.New(rand.NewSource(seed)), 60, 3}
		r := p.shuffled(t, p.row(80))
		for i, after := range append(r.Order(), none, stamp(60, 63)) {
			at := stamp(100+i, 0)
			if e := r.Add(at, after); e != api.OK {
				t.Fatalf("seed %d: Add(%v, %v): %d", seed, at, after, e)
			}
			want := after
			if !r.Has(after) {
				want = none
			}
			if got, ok := r.Ahead(at); !ok || got != want {
				t.Fatalf("seed %d: %v put behind %v: ahead stands %v %v", seed, at, after, got, ok)
			}
		}
	}
}

// P12.6

// typed puts n slots of one replica, the first one behind after, each other one behind the one ahead; their counts are above from, as they come.
func (p player) typed(m model, after api.Stamp, from, replica, n int) []api.Stamp {
	var out []api.Stamp
	for range n {
		from += 1 + p.Intn(3)
		at := stamp(from, replica)
		m[at] = after
		out = append(out, at)
		after = at
	}
	return out
}

func TestNobodysRowIsTornApart(t *testing.T) {
	for seed := range int64(100) {
		p := player{rand.New(rand.NewSource(seed)), 30, 3}
		m := p.row(40)
		// Behind a slot that is there, ahead of all, and behind one that never comes.
		for _, after := range append(p.shuffled(t, m).Order()[:3], none, stamp(29, 60)) {
			n := maps.Clone(m)
			var rows [][]api.Stamp
			for replica := range 2 + int(seed%3) {
				rows = append(rows, p.typed(n, after, 30+p.Intn(20), 10+replica, 1+p.Intn(12)))
			}
			order := p.shuffled(t, n).Order()
			for _, row := range rows {
				i := slices.Index(order, row[0])
				if i < 0 || i+len(row) > len(order) || !slices.Equal(order[i:i+len(row)], row) {
					t.Fatalf("seed %d: %v is torn apart in %v", seed, row, order)
				}
			}
		}
	}
}

// Many

// As many nested in one another as the document speaks of: one behind the other, and each one with an earlier one beside it.
func TestDeepRows(t *testing.T) {
	const deep = 1 << 16
	var want []api.Stamp
	for i := 1; i <= deep; i++ {
		want = append(want, stamp(i, 1))
	}
	chain, back, beside := New(), New(), New()
	for i := 1; i <= deep; i++ {
		if chain.Add(stamp(i, 1), before(i)) != api.OK || back.Add(stamp(deep+1-i, 1), before(deep+1-i)) != api.OK {
			t.Fatal(i)
		}
		if beside.Add(stamp(i, 1), before(i)) != api.OK || beside.Add(stamp(i, 0), before(i)) != api.OK {
			t.Fatal(i)
		}
	}
	for _, r := range []*Row{chain, back} {
		if !slices.Equal(r.Order(), want) {
			t.Error("another order")
		}
	}
	for i := deep; i >= 1; i-- {
		want = append(want, stamp(i, 0))
	}
	if !slices.Equal(beside.Order(), want) {
		t.Error("another order of two at each place")
	}
	last := none
	for _, at := range want {
		if got, ok := beside.Ahead(at); !ok || got != last {
			t.Fatalf("Ahead(%v): %v %v", at, got, ok)
		}
		last = at
	}
}

func before(i int) api.Stamp {
	if i == 1 {
		return none
	}
	return stamp(i-1, 1)
}

// Many side by side, which come rising, falling, and ahead of the one behind which they were put.
func TestWideRows(t *testing.T) {
	const wide = 1 << 14
	up, down, soon := New(), New(), New()
	for i := 2; i <= wide; i++ {
		if up.Add(stamp(i, 0), none) != api.OK || down.Add(stamp(wide+2-i, 0), none) != api.OK || soon.Add(stamp(i, 0), stamp(1, 0)) != api.OK {
			t.Fatal(i)
		}
	}
	want := up.Order()
	for i, at := range want {
		if at != stamp(wide-i, 0) {
			t.Fatalf("at %d: %v", i, at)
		}
	}
	if !slices.Equal(down.Order(), want) || !slices.Equal(soon.Order(), want) {
		t.Error("another order")
	}
	mustAdd(t, soon, "1.0 -")
	if !slices.Equal(soon.Order(), append([]api.Stamp{stamp(1, 0)}, want...)) {
		t.Error("another order behind the one for which all waited")
	}
}

// What stands under the front is kept once, however many came too soon.
func TestNothingIsKeptOfWhatCameTooSoon(t *testing.T) {
	for seed := range int64(20) {
		p := player{rand.New(rand.NewSource(seed)), 60, 2}
		m := p.row(100)
		r := p.shuffled(t, m)
		var front []api.Stamp
		for at, after := range m {
			if !m.has(after) {
				front = append(front, at)
			}
		}
		if !slices.Equal(r.front, ident.Sort(front)) {
			t.Fatalf("seed %d: %v, not %v", seed, r.front, front)
		}
	}
}

// Of any bytes: each two of them are a slot.
func FuzzAnyCalls(f *testing.F) {
	f.Add([]byte{1, 0, 2, 1, 0x42, 1, 3, 2, 0x44, 0})
	f.Add([]byte{5, 2, 3, 0, 2, 0})
	f.Add([]byte{0, 0, 9, 9, 9, 7, 8, 9, 7, 6, 0xc6, 0x40})
	f.Fuzz(func(t *testing.T, b []byte) {
		if len(b) > 160 {
			return
		}
		r, m := New(), model{}
		for ; len(b) >= 2; b = b[2:] {
			at, after := stamp(int(b[0]&63), int(b[0]>>6)&1), stamp(int(b[1]&63), int(b[1]>>6)-1)
			if b[1]>>6 == 0 {
				after.Replica = 0
			}
			if e, want := r.Add(at, after), m.add(at, after); e != want {
				t.Fatalf("Add(%v, %v): %d, want %d", at, after, e, want)
			}
			if b[0] >= 0x80 {
				wantModel(t, r, m, at, after)
			}
		}
		wantModel(t, r, m)
	})
}
