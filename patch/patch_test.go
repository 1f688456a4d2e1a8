package patch

import (
	"math"
	"math/rand"
	"slices"
	"strings"
	"testing"

	"topiary/api"
	"topiary/ident"
)

var (
	root  = api.Stamp{}
	trash = api.Stamp{Replica: 1}
)

func stamp(count, replica int) api.Stamp { return api.Stamp{Count: count, Replica: replica} }

// key tells the stamp of which that is the text.
func key(text string) api.Stamp {
	s, e := ident.Parse(text)
	if e != api.OK {
		panic(text)
	}
	return s
}

// sample tells a right step of each kind.
func sample(kind int) api.Patch {
	p := api.Patch{Kind: kind, Key: stamp(3, 2)}
	switch kind {
	case api.PMake, api.PTag, api.PClear:
		p.Name = "li"
	case api.PPut:
		p.Parent, p.After = stamp(2, 1), stamp(4, 0)
	case api.PShift:
		p.After = stamp(4, 0)
	case api.PText:
		p.Value = "hey"
	case api.PSet:
		p.Name, p.Value = "id", "x y"
	}
	return p
}

func isName(s string) bool {
	const first, others = "abcdefghijklmnopqrstuvwxyz", "abcdefghijklmnopqrstuvwxyz0123456789-"
	return len(s) >= 1 && len(s) <= 32 && strings.Contains(first, s[:1]) && strings.Trim(s, others) == ""
}

func isRight(s api.Stamp) bool {
	return s.Count >= 1 && s.Count <= 1<<40 && s.Replica >= 0 && s.Replica <= 63
}

func isNode(s api.Stamp) bool { return s == root || s == trash || isRight(s) }

// plainCheck tells the first fault, in the order of the promise, one condition behind the other.
func plainCheck(p api.Patch) api.Errno {
	is := func(kinds ...int) bool { return slices.Contains(kinds, p.Kind) }
	for _, fault := range []struct {
		is bool
		e  api.Errno
	}{
		{!is(1, 2, 3, 4, 5, 6, 7, 8, 9), api.ErrRange},
		{is(1, 2, 3, 4, 5) && !isRight(p.Key), api.ErrForm},
		{is(6, 7, 8, 9) && !isNode(p.Key), api.ErrForm},
		{is(4) && (!isNode(p.Parent) || p.Parent == p.Key), api.ErrForm},
		{!is(4) && p.Parent != root, api.ErrForm},
		{is(4, 5) && p.After != root && !isRight(p.After), api.ErrForm},
		{is(4, 5) && p.After == p.Key, api.ErrForm},
		{!is(4, 5) && p.After != root, api.ErrForm},
		{is(3, 6, 8, 9) && !isName(p.Name), api.ErrName},
		{!is(3, 6, 8, 9) && p.Name != "", api.ErrName},
		{len(p.Value) > 256, api.ErrLong},
		{!is(7, 8) && p.Value != "", api.ErrForm},
	} {
		if fault.is {
			return fault.e
		}
	}
	return api.OK
}

func wantCheck(t testing.TB, p api.Patch, want api.Errno) {
	t.Helper()
	if e := Check(p); e != want {
		t.Errorf("%+v: %d, want %d", p, e, want)
	}
	if e := plainCheck(p); e != want {
		t.Errorf("the model of %+v: %d, want %d", p, e, want)
	}
}

// P17.1

func TestCheckOfRightSteps(t *testing.T) {
	for kind := 1; kind <= 9; kind++ {
		p := sample(kind)
		wantCheck(t, p, api.OK)
		for _, k := range []api.Stamp{stamp(1, 0), stamp(1, 63), stamp(1<<40, 0), stamp(1<<40, 63)} {
			p.Key = k
			wantCheck(t, p, api.OK)
		}
	}
	for _, kind := range []int{api.PPut, api.PShift} {
		p := sample(kind)
		for _, after := range []api.Stamp{root, stamp(1, 0), stamp(1, 1), stamp(1<<40, 63)} {
			p.After = after
			wantCheck(t, p, api.OK)
		}
	}
	p := sample(api.PPut)
	for _, parent := range []api.Stamp{root, trash, stamp(1, 0), stamp(1<<40, 63), p.After} {
		p.Parent = parent
		wantCheck(t, p, api.OK)
	}
	for _, kind := range []int{api.PText, api.PSet} {
		p := sample(kind)
		for _, value := range []string{"", "\x00", "\xff\n\"\\", strings.Repeat("v", 256)} {
			p.Value = value
			wantCheck(t, p, api.OK)
		}
	}
}

func TestCheckKinds(t *testing.T) {
	for _, kind := range []int{0, 10, 11, -1, -9, 256, 257, math.MaxInt, math.MinInt} {
		p := sample(api.PTake)
		p.Kind = kind
		wantCheck(t, p, api.ErrRange)
		// Ahead of all else that is wrong.
		wantCheck(t, api.Patch{Kind: kind, Key: stamp(-1, -1), Name: "P", Value: strings.Repeat("v", 257)}, api.ErrRange)
		wantCheck(t, api.Patch{Kind: kind}, api.ErrRange)
	}
}

func TestCheckKeys(t *testing.T) {
	for kind := 1; kind <= 9; kind++ {
		p := sample(kind)
		for _, k := range wrongStamps() {
			p.Key = k
			wantCheck(t, p, api.ErrForm)
		}
		want := api.ErrForm
		if kind >= api.PTag {
			want = api.OK
		}
		for _, k := range []api.Stamp{root, trash} {
			p.Key = k
			wantCheck(t, p, want)
		}
	}
}

// wrongStamps are no node's names.
func wrongStamps() []api.Stamp {
	return []api.Stamp{
		{Replica: 2}, {Replica: -1}, {Replica: 63}, stamp(1, 64), stamp(1, -1), stamp(-1, 0), stamp(-1, 1), stamp(1<<40+1, 0),
		stamp(math.MaxInt, 0), stamp(math.MinInt, 0), stamp(1, math.MaxInt), stamp(1, math.MinInt), stamp(math.MaxInt, math.MaxInt),
	}
}

func TestCheckPlaces(t *testing.T) {
	for kind := 1; kind <= 9; kind++ {
		p := sample(kind)
		for _, s := range append(wrongStamps(), p.Key) {
			q := p
			q.Parent = s
			wantCheck(t, q, api.ErrForm)
			q = p
			q.After = s
			wantCheck(t, q, api.ErrForm)
		}
		for _, s := range []api.Stamp{trash, stamp(1, 0), stamp(9, 9)} {
			q := p
			q.Parent = s
			if kind == api.PPut {
				wantCheck(t, q, api.OK)
			} else {
				wantCheck(t, q, api.ErrForm)
			}
			q = p
			q.After = s
			if (kind == api.PPut || kind == api.PShift) && s != trash {
				wantCheck(t, q, api.OK)
			} else {
				wantCheck(t, q, api.ErrForm)
			}
		}
	}
}

func TestCheckNames(t *testing.T) {
	wrong := []string{"P", "-", "1", "a b", "a_b", " ", "a ", " a", "\x00", "é", "a\n", strings.Repeat("a", 33)}
	right := []string{"a", "z", "a1", "a-", "h1-x", strings.Repeat("z", 32)}
	for kind := 1; kind <= 9; kind++ {
		p := sample(kind)
		for _, name := range wrong {
			p.Name = name
			wantCheck(t, p, api.ErrName)
		}
		hasName := sample(kind).Name != ""
		for _, name := range right {
			p.Name = name
			if hasName {
				wantCheck(t, p, api.OK)
			} else {
				wantCheck(t, p, api.ErrName)
			}
		}
		p.Name = ""
		if hasName {
			wantCheck(t, p, api.ErrName)
		} else {
			wantCheck(t, p, api.OK)
		}
	}
}

func TestCheckValues(t *testing.T) {
	for kind := 1; kind <= 9; kind++ {
		p := sample(kind)
		for _, n := range []int{257, 258, 1 << 20} {
			p.Value = strings.Repeat("v", n)
			wantCheck(t, p, api.ErrLong)
		}
		for _, n := range []int{1, 255, 256} {
			p.Value = strings.Repeat("v", n)
			if kind == api.PText || kind == api.PSet {
				wantCheck(t, p, api.OK)
			} else {
				wantCheck(t, p, api.ErrForm)
			}
		}
	}
}

// Of several faults the one that the promise names first.
func TestCheckTellsTheFirstFault(t *testing.T) {
	long := strings.Repeat("v", 257)
	for kind := 1; kind <= 9; kind++ {
		p := sample(kind)
		p.Name, p.Value = "P", long
		wantCheck(t, p, api.ErrName)
		p.After = p.Key
		wantCheck(t, p, api.ErrForm)
		p = sample(kind)
		p.Parent, p.Name, p.Value = p.Key, "P", long
		wantCheck(t, p, api.ErrForm)
		p = sample(kind)
		p.Key, p.Name, p.Value = stamp(-1, 0), "P", long
		wantCheck(t, p, api.ErrForm)
		p = sample(kind)
		p.Value = long
		wantCheck(t, p, api.ErrLong)
	}
}

// Each kind with each edge of each field, all together.
func TestCheckOfAllEdges(t *testing.T) {
	stamps := []api.Stamp{root, trash, {Replica: 2}, stamp(1, 0), stamp(1, 1), stamp(1<<40, 63), stamp(1<<40, 64), stamp(1<<40+1, 0), stamp(-1, 0)}
	count := map[api.Errno]int{}
	for kind := -1; kind <= 11; kind++ {
		for _, k := range stamps {
			for _, parent := range stamps {
				for _, after := range stamps {
					for _, name := range []string{"", "a", "A", strings.Repeat("a", 33)} {
						for _, n := range []int{0, 1, 256, 257} {
							p := api.Patch{Kind: kind, Key: k, Parent: parent, After: after, Name: name, Value: strings.Repeat("v", n)}
							e := Check(p)
							if want := plainCheck(p); e != want {
								t.Fatalf("%+v: %d, want %d", p, e, want)
							}
							count[e]++
						}
					}
				}
			}
		}
	}
	for _, e := range []api.Errno{api.OK, api.ErrRange, api.ErrForm, api.ErrName, api.ErrLong} {
		if count[e] == 0 {
			t.Errorf("none with %d", e)
		}
	}
}

// P17.3: Touched

func TestTouched(t *testing.T) {
	for _, l := range [][]api.Patch{nil, {}} {
		if got := Touched(l); len(got) != 0 {
			t.Errorf("%v", got)
		}
	}
	l := []api.Patch{
		{Kind: api.PTake, Key: stamp(3, 0)},
		{Kind: api.PPut, Key: stamp(3, 0), Parent: stamp(7, 0), After: stamp(8, 0)},
		{Kind: api.PTag, Key: stamp(2, 1), Name: "b"},
		{Kind: api.PText, Key: root, Value: "a"},
		{Kind: api.PSet, Key: stamp(2, 0), Name: "id"},
		{Kind: api.PClear, Key: trash, Name: "id"},
		{Kind: api.PShift, Key: stamp(2, 1), After: stamp(9, 0)},
		{Kind: api.PMake, Key: stamp(4, 0), Name: "p"},
		{Kind: api.PDrop, Key: stamp(1, 5)},
	}
	want := []api.Stamp{root, trash, stamp(1, 5), stamp(2, 0), stamp(2, 1), stamp(3, 0), stamp(4, 0)}
	if got := Touched(l); !slices.Equal(got, want) {
		t.Errorf("%v, want %v", got, want)
	}
}

// Of all steps, whatever they are.
func TestTouchedOfWrongSteps(t *testing.T) {
	l := []api.Patch{
		{Kind: 77, Key: stamp(math.MaxInt, math.MinInt)},
		{},
		{Kind: -1, Key: stamp(math.MinInt, math.MaxInt), Parent: stamp(5, 5)},
		{Kind: api.PTake, Key: stamp(-1, 7), Name: "no name"},
		{Kind: api.PTake, Key: stamp(math.MaxInt, math.MinInt), Value: strings.Repeat("v", 300)},
	}
	want := []api.Stamp{stamp(math.MinInt, math.MaxInt), stamp(-1, 7), {}, stamp(math.MaxInt, math.MinInt)}
	if got := Touched(l); !slices.Equal(got, want) {
		t.Errorf("%v, want %v", got, want)
	}
}

func TestTouchedOfManySteps(t *testing.T) {
	p := rand.New(rand.NewSource(17))
	for range 300 {
		var l []api.Patch
		is := map[api.Stamp]bool{}
		for range p.Intn(60) {
			k := stamp(p.Intn(7)-1, p.Intn(5)-1)
			is[k] = true
			l = append(l, api.Patch{Kind: p.Intn(12), Key: k, Parent: stamp(50, 0), After: stamp(51, 0)})
		}
		got := Touched(l)
		if len(got) != len(is) {
			t.Fatalf("%v of %v", got, l)
		}
		for i, k := range got {
			isRising := i == 0 || got[i-1].Count < k.Count || got[i-1].Count == k.Count && got[i-1].Replica < k.Replica
			if !is[k] || !isRising {
				t.Fatalf("%v of %v", got, l)
			}
		}
	}
}

func TestTouchedIsNewMemory(t *testing.T) {
	l := []api.Patch{sample(api.PTake), sample(api.PTag)}
	a := Touched(l)
	b := Touched(l)
	for i := range a[:cap(a)] {
		a[:cap(a)][i] = stamp(99, 9)
	}
	if !slices.Equal(b, []api.Stamp{stamp(3, 2)}) || l[0] != sample(api.PTake) || l[1] != sample(api.PTag) {
		t.Errorf("%v %v", b, l)
	}
}
