package change

import (
	"math"
	"math/rand"
	"reflect"
	"regexp"
	"slices"
	"strings"
	"testing"

	"topiary/api"
	"topiary/clock"
	"topiary/ident"
)

var kinds = []int{api.KCreate, api.KMove, api.KSet, api.KClear, api.KText}

func stamp(count, replica int) api.Stamp {
	return api.Stamp{Count: count, Replica: replica}
}

// sample tells a right change of a kind, the third one of replica 2.
func sample(kind int) api.Change {
	c := api.Change{At: stamp(9, 2), Seq: 3, Deps: []int{4, 0, 2, 1}, Kind: kind, Node: stamp(5, 1)}
	switch kind {
	case api.KCreate:
		c.Node, c.Parent, c.After, c.Name = c.At, stamp(4, 0), stamp(6, 3), "p"
	case api.KMove:
		c.Parent, c.After = stamp(4, 0), stamp(6, 3)
	case api.KSet:
		c.Name, c.Value = "class", "a\nb"
	case api.KClear:
		c.Name = "class"
	case api.KText:
		c.Value = "a b"
	}
	return c
}

// P5.1: Name

var nameForm = regexp.MustCompile(`^[a-z][a-z0-9-]{0,31}$`)

func TestName(t *testing.T) {
	for _, s := range []string{"a", "z", "p", "h1", "a-", "a-b", "a--b", "data-x-9", "az09-", strings.Repeat("a", 31), strings.Repeat("z", 32), "a" + strings.Repeat("-", 31)} {
		if !Name(s) {
			t.Errorf("%q is a name", s)
		}
	}
	for _, s := range []string{"", "-", "-a", "1", "1a", "A", "aB", "Ab", "a b", " a", "a ", "a_b", "a.b", "a:b", "a\n", "a\x00", "\x00", "\u00e4", "a\u00e4", "a\xff", "`", "{", "a`", "a{", "a/", "a:", "a,", "a.", "a@", "a[", strings.Repeat("a", 33), strings.Repeat("a", 1<<20)} {
		if Name(s) {
			t.Errorf("%.40q is no name", s)
		}
	}
}

func TestNameOfAllShortTexts(t *testing.T) {
	for a := range 256 {
		if s := string([]byte{byte(a)}); Name(s) != nameForm.MatchString(s) {
			t.Errorf("%q: %v", s, Name(s))
		}
		for b := range 256 {
			s := string([]byte{byte(a), byte(b)})
			if Name(s) != nameForm.MatchString(s) {
				t.Errorf("%q: %v", s, Name(s))
			}
		}
	}
}

func TestNameLooksAtEachByte(t *testing.T) {
	for n := 1; n <= 34; n++ {
		s := strings.Repeat("b", n)
		if Name(s) != (n <= api.MaxName) {
			t.Errorf("%d bytes: %v", n, Name(s))
		}
		for i := range n {
			if Name(s[:i] + "B" + s[i+1:]) {
				t.Errorf("%d bytes, a B at %d", n, i)
			}
		}
	}
}

// P5.1: Check

func TestCheckOK(t *testing.T) {
	for _, kind := range kinds {
		if e := Check(sample(kind)); e != api.OK {
			t.Errorf("kind %d: %d", kind, e)
		}
	}
	longest := strings.Repeat("x", api.MaxValue)
	full := slices.Repeat([]int{api.MaxCount}, api.MaxReplicas)
	full[63] = api.MaxCount - 1
	last := stamp(api.MaxCount, 63)
	for i, c := range []api.Change{
		{At: stamp(1, 0), Seq: 1, Kind: api.KCreate, Node: stamp(1, 0), Name: "p"},
		{At: stamp(1, 0), Seq: 1, Deps: []int{}, Kind: api.KCreate, Node: stamp(1, 0), Parent: stamp(0, 1), Name: "p"},
		{At: stamp(1, 1), Seq: 1, Kind: api.KCreate, Node: stamp(1, 1), Parent: stamp(1, 0), After: stamp(1, 0), Name: "p"},
		{At: last, Seq: api.MaxCount, Deps: full, Kind: api.KCreate, Node: last, Parent: stamp(api.MaxCount, 62), After: stamp(api.MaxCount, 62), Name: strings.Repeat("a", 32)},
		{At: stamp(1, 1), Seq: 1, Kind: api.KMove, Node: stamp(1, 0)},
		{At: stamp(1, 1), Seq: 1, Kind: api.KMove, Node: stamp(1, 0), Parent: stamp(0, 1), After: stamp(1, 0)},
		{At: stamp(3, 1), Seq: 1, Kind: api.KMove, Node: stamp(1, 0), Parent: stamp(2, 0), After: stamp(2, 0)},
		{At: stamp(1, 0), Seq: 1, Kind: api.KSet, Name: "a"},
		{At: stamp(1, 0), Seq: 1, Kind: api.KSet, Name: "a", Value: longest},
		{At: stamp(1, 1), Seq: 1, Kind: api.KSet, Node: stamp(1, 0), Name: "a", Value: "\x00\xff"},
		{At: stamp(1, 0), Seq: 1, Kind: api.KClear, Name: "a"},
		{At: stamp(1, 0), Seq: 1, Kind: api.KText},
		{At: stamp(1, 0), Seq: 1, Kind: api.KText, Value: longest},
		{At: stamp(7, 0), Seq: 7, Deps: []int{6}, Kind: api.KText},
		{At: stamp(7, 0), Seq: 1, Deps: []int{0, 9}, Kind: api.KText},
		{At: stamp(7, 1), Seq: 2, Deps: []int{0, 1}, Kind: api.KText},
		{At: stamp(7, 63), Seq: 1, Deps: []int{1}, Kind: api.KText},
	} {
		if e := Check(c); e != api.OK {
			t.Errorf("%d: %d", i, e)
		}
	}
}

// A fault is one way of making a right change wrong. They stand in the order of the reasons that Check names.
type fault struct {
	reason int
	e      api.Errno
	of     string // the kinds that have it
	spoil  func(c *api.Change)
}

const all, placing, unplacing = "12345", "12", "345"

var faults = []fault{
	{1, api.ErrRange, all, func(c *api.Change) { c.Kind = 0 }},
	{1, api.ErrRange, all, func(c *api.Change) { c.Kind = 6 }},
	{1, api.ErrRange, all, func(c *api.Change) { c.Kind = -1 }},
	{1, api.ErrRange, all, func(c *api.Change) { c.Kind = math.MaxInt }},
	{1, api.ErrRange, all, func(c *api.Change) { c.Kind = math.MinInt }},
	{2, api.ErrForm, all, func(c *api.Change) { c.At = stamp(0, 0) }},
	{2, api.ErrForm, all, func(c *api.Change) { c.At = stamp(0, 1) }},
	{2, api.ErrForm, all, func(c *api.Change) { c.At = stamp(9, 64) }},
	{2, api.ErrForm, all, func(c *api.Change) { c.At = stamp(9, -1) }},
	{2, api.ErrForm, all, func(c *api.Change) { c.At = stamp(api.MaxCount+1, 2) }},
	{2, api.ErrForm, all, func(c *api.Change) { c.At = stamp(math.MinInt, 2) }},
	{3, api.ErrRange, all, func(c *api.Change) { c.Seq = 0 }},
	{3, api.ErrRange, all, func(c *api.Change) { c.Seq = -1 }},
	{3, api.ErrRange, all, func(c *api.Change) { c.Seq = 10 }},
	{3, api.ErrRange, all, func(c *api.Change) { c.Seq = math.MaxInt }},
	{3, api.ErrRange, all, func(c *api.Change) { c.Seq = math.MinInt }},
	{4, api.ErrLong, all, func(c *api.Change) { c.Deps = slices.Repeat([]int{2}, 65) }},
	{4, api.ErrLong, all, func(c *api.Change) { c.Deps = slices.Repeat([]int{-1}, 65) }},
	{5, api.ErrRange, all, func(c *api.Change) { c.Deps = []int{-1, 0, 2} }},
	{5, api.ErrRange, all, func(c *api.Change) { c.Deps = []int{api.MaxCount + 1, 0, 1, 0} }},
	{6, api.ErrForm, all, func(c *api.Change) { c.Deps = []int{4, 0, 2, 0} }},
	{6, api.ErrForm, all, func(c *api.Change) { c.Deps = []int{4, 0, 1} }},
	{6, api.ErrForm, all, func(c *api.Change) { c.Deps = []int{4, 0, 3} }},
	{6, api.ErrForm, all, func(c *api.Change) { c.Deps = []int{4, 2} }},
	{6, api.ErrForm, all, func(c *api.Change) { c.Deps = nil }},
	{7, api.ErrForm, "1", func(c *api.Change) { c.Node = stamp(5, 1) }},
	{7, api.ErrForm, "1", func(c *api.Change) { c.Node = stamp(0, 0) }},
	{7, api.ErrForm, "12", func(c *api.Change) { c.Node = stamp(0, 0) }},
	{7, api.ErrForm, all, func(c *api.Change) { c.Node = stamp(0, 1) }},
	{7, api.ErrForm, all, func(c *api.Change) { c.Node = stamp(0, 2) }},
	{7, api.ErrForm, all, func(c *api.Change) { c.Node = stamp(5, 64) }},
	{7, api.ErrForm, all, func(c *api.Change) { c.Node = stamp(5, -1) }},
	{7, api.ErrForm, all, func(c *api.Change) { c.Node = stamp(-1, 0) }},
	{7, api.ErrForm, "2345", func(c *api.Change) { c.Node = c.At }},
	{7, api.ErrForm, all, func(c *api.Change) { c.Node = stamp(9, 3) }},
	{7, api.ErrForm, all, func(c *api.Change) { c.Node = stamp(10, 0) }},
	{8, api.ErrForm, placing, func(c *api.Change) { c.Parent = stamp(0, 2) }},
	{8, api.ErrForm, placing, func(c *api.Change) { c.Parent = stamp(-1, 0) }},
	{8, api.ErrForm, placing, func(c *api.Change) { c.Parent = stamp(4, 64) }},
	{8, api.ErrForm, placing, func(c *api.Change) { c.Parent = stamp(4, -1) }},
	{8, api.ErrForm, placing, func(c *api.Change) { c.Parent = stamp(9, 2) }},
	{8, api.ErrForm, placing, func(c *api.Change) { c.Parent = stamp(9, 3) }},
	{8, api.ErrForm, placing, func(c *api.Change) { c.Parent = stamp(10, 0) }},
	{8, api.ErrForm, "2", func(c *api.Change) { c.Parent = stamp(5, 1) }},
	{8, api.ErrForm, placing, func(c *api.Change) { c.After = stamp(0, 1) }},
	{8, api.ErrForm, placing, func(c *api.Change) { c.After = stamp(0, 2) }},
	{8, api.ErrForm, placing, func(c *api.Change) { c.After = stamp(6, 64) }},
	{8, api.ErrForm, placing, func(c *api.Change) { c.After = stamp(-1, 0) }},
	{8, api.ErrForm, placing, func(c *api.Change) { c.After = stamp(9, 2) }},
	{8, api.ErrForm, placing, func(c *api.Change) { c.After = stamp(9, 3) }},
	{8, api.ErrForm, placing, func(c *api.Change) { c.After = stamp(10, 0) }},
	{8, api.ErrForm, unplacing, func(c *api.Change) { c.Parent = stamp(0, 1) }},
	{8, api.ErrForm, unplacing, func(c *api.Change) { c.Parent = stamp(4, 0) }},
	{8, api.ErrForm, unplacing, func(c *api.Change) { c.After = stamp(0, 1) }},
	{8, api.ErrForm, unplacing, func(c *api.Change) { c.After = stamp(4, 0) }},
	{9, api.ErrName, "134", func(c *api.Change) { c.Name = "" }},
	{9, api.ErrName, all, func(c *api.Change) { c.Name = "P" }},
	{9, api.ErrName, all, func(c *api.Change) { c.Name = strings.Repeat("a", 33) }},
	{9, api.ErrName, "25", func(c *api.Change) { c.Name = "p" }},
	{10, api.ErrLong, all, func(c *api.Change) { c.Value = strings.Repeat("x", 257) }},
	{11, api.ErrForm, "124", func(c *api.Change) { c.Value = "x" }},
	{11, api.ErrForm, "124", func(c *api.Change) { c.Value = strings.Repeat("x", 256) }},
}

func TestCheckTellsTheFault(t *testing.T) {
	for i, f := range faults {
		for _, k := range f.of {
			c := sample(int(k - '0'))
			f.spoil(&c)
			if e := Check(c); e != f.e {
				t.Errorf("fault %d (reason %d), kind %c: %d", i, f.reason, k, e)
			}
			if text, e := Text(c); text != "" || e != f.e {
				t.Errorf("fault %d (reason %d), kind %c: Text %q %d", i, f.reason, k, text, e)
			}
		}
	}
}

// Of two reasons the first one counts. (The first reason's fault is made last, since some change what the other one's hang on.)
func TestCheckTellsTheFirstFault(t *testing.T) {
	n := 0
	for i, first := range faults {
		for j, second := range faults {
			if first.reason >= second.reason {
				continue
			}
			for _, k := range first.of {
				if !strings.ContainsRune(second.of, k) {
					continue
				}
				c := sample(int(k - '0'))
				second.spoil(&c)
				first.spoil(&c)
				if e := Check(c); e != first.e {
					t.Errorf("faults %d, %d (reasons %d, %d), kind %c: %d", i, j, first.reason, second.reason, k, e)
				}
				n++
			}
		}
	}
	if n < 1000 {
		t.Errorf("%d pairs", n)
	}
}

// want is Check's answer told anew, reason by reason, of a change whose At, Seq and Deps are right.
func want(c api.Change) api.Errno {
	root, no := api.Stamp{}, func(s api.Stamp) bool { return !ident.Right(s) || ident.Compare(s, c.At) >= 0 }
	switch {
	case c.Kind < 1 || c.Kind > 5:
		return api.ErrRange
	case c.Kind == api.KCreate && c.Node != c.At:
		return api.ErrForm
	case c.Kind == api.KMove && no(c.Node):
		return api.ErrForm
	case c.Kind > api.KMove && c.Node != root && no(c.Node):
		return api.ErrForm
	case c.Kind <= api.KMove && (c.Parent == c.Node || c.Parent != root && c.Parent != stamp(0, 1) && no(c.Parent)):
		return api.ErrForm
	case c.Kind <= api.KMove && c.After != root && no(c.After):
		return api.ErrForm
	case c.Kind > api.KMove && (c.Parent != root || c.After != root):
		return api.ErrForm
	case slices.Contains([]int{api.KCreate, api.KSet, api.KClear}, c.Kind) && !nameForm.MatchString(c.Name):
		return api.ErrName
	case slices.Contains([]int{api.KMove, api.KText}, c.Kind) && c.Name != "":
		return api.ErrName
	case len(c.Value) > 256:
		return api.ErrLong
	case !slices.Contains([]int{api.KSet, api.KText}, c.Kind) && c.Value != "":
		return api.ErrForm
	}
	return api.OK
}

// grid calls do with changes of all kinds whose other fields go through edges.
func grid(do func(c api.Change)) {
	stamps := []api.Stamp{{}, stamp(0, 1), stamp(0, 2), stamp(0, -1), stamp(-1, 0), stamp(1, 0), stamp(8, 63), stamp(8, 64), stamp(9, 1), stamp(9, 2), stamp(9, 3), stamp(10, 0), stamp(math.MaxInt, 0)}
	for kind := -1; kind <= 7; kind++ {
		for _, node := range stamps {
			for _, parent := range stamps {
				for _, after := range stamps {
					for _, name := range []string{"", "a", "A"} {
						for _, value := range []string{"", "x", strings.Repeat("x", 256), strings.Repeat("x", 257)} {
							do(api.Change{At: stamp(9, 2), Seq: 3, Deps: []int{4, 0, 2, 1}, Kind: kind, Node: node, Parent: parent, After: after, Name: name, Value: value})
						}
					}
				}
			}
		}
	}
}

func TestCheckOfAllEdges(t *testing.T) {
	right := 0
	grid(func(c api.Change) {
		if e := Check(c); e != want(c) {
			t.Errorf("%+v: %d, not %d", c, e, want(c))
		}
		if Check(c) == api.OK {
			right++
		}
	})
	if right == 0 {
		t.Error("none is right")
	}
}

func TestCheckOfAllSeqsAndDeps(t *testing.T) {
	var clocks [][]int
	for a := -1; a < 3; a++ {
		for b := -1; b < 3; b++ {
			for c := -1; c < 3; c++ {
				clocks = append(clocks, []int{a, b, c}, []int{a, b}, []int{a}, nil)
			}
		}
	}
	for r := range 3 {
		for seq := -1; seq < 5; seq++ {
			for _, deps := range clocks {
				c := api.Change{At: stamp(2, r), Seq: seq, Deps: deps, Kind: api.KText}
				e := api.OK
				switch {
				case seq < 1 || seq > 2:
					e = api.ErrRange
				case clock.Check(deps) != api.OK:
					e = clock.Check(deps)
				case len(deps) > 0 && deps[len(deps)-1] == 0, clock.At(deps, r) != seq-1:
					e = api.ErrForm
				}
				if got := Check(c); got != e {
					t.Errorf("%v: %d, not %d", c, got, e)
				}
			}
		}
	}
}

// P5.2

// others tells changes that differ from c in one field each.
func others(c api.Change) []api.Change {
	var out []api.Change
	add := func(turn func(c *api.Change)) {
		d := Copy(c)
		turn(&d)
		out = append(out, d)
	}
	add(func(c *api.Change) { c.At.Count++ })
	add(func(c *api.Change) { c.At.Replica++ })
	add(func(c *api.Change) { c.Seq++ })
	add(func(c *api.Change) { c.Deps[0]++ })
	add(func(c *api.Change) { c.Deps[len(c.Deps)-1]++ })
	add(func(c *api.Change) { c.Deps = append(c.Deps, 0) })
	add(func(c *api.Change) { c.Deps = c.Deps[:len(c.Deps)-1] })
	add(func(c *api.Change) { c.Deps = nil })
	add(func(c *api.Change) { c.Kind++ })
	add(func(c *api.Change) { c.Node.Count++ })
	add(func(c *api.Change) { c.Node.Replica++ })
	add(func(c *api.Change) { c.Parent.Count++ })
	add(func(c *api.Change) { c.Parent.Replica++ })
	add(func(c *api.Change) { c.After.Count++ })
	add(func(c *api.Change) { c.After.Replica++ })
	add(func(c *api.Change) { c.Name += "x" })
	add(func(c *api.Change) { c.Value += "x" })
	return out
}

func TestSame(t *testing.T) {
	for _, kind := range append([]int{0, -7, math.MaxInt}, kinds...) {
		c := sample(kind)
		if !Same(c, c) || !Same(c, Copy(c)) || !Same(Copy(c), c) {
			t.Errorf("kind %d: not the same as itself", kind)
		}
		for i, d := range others(c) {
			if Same(c, d) || Same(d, c) {
				t.Errorf("kind %d: the same as the other one %d", kind, i)
			}
		}
	}
	if !Same(api.Change{}, api.Change{Deps: []int{}}) || !Same(api.Change{Deps: []int{}}, api.Change{}) {
		t.Error("a list without elements is nil's like")
	}
	if Same(api.Change{}, api.Change{Deps: []int{0}}) {
		t.Error("a nought is an element")
	}
	if !Same(api.Change{Deps: make([]int, 1, 9)}, api.Change{Deps: make([]int, 1)}) {
		t.Error("a list's room says nothing")
	}
}

func TestLess(t *testing.T) {
	for _, x := range []struct {
		a, b api.Stamp
		want bool
	}{
		{stamp(1, 5), stamp(2, 0), true},
		{stamp(2, 0), stamp(2, 1), true},
		{stamp(2, 1), stamp(2, 0), false},
		{stamp(2, 1), stamp(2, 1), false},
		{stamp(3, 0), stamp(2, 1), false},
		{stamp(9, 0), stamp(10, 0), true},
		{stamp(math.MinInt, 0), stamp(math.MaxInt, 0), true},
		{stamp(math.MaxInt, 0), stamp(math.MinInt, 0), false},
		{stamp(0, math.MinInt), stamp(0, math.MaxInt), true},
	} {
		a, b := sample(api.KSet), sample(api.KMove)
		a.At, b.At = x.a, x.b
		// The other fields say nothing: each one is ahead once.
		a.Seq, b.Seq = 9, 1
		if Less(a, b) != x.want {
			t.Errorf("%v %v: %v", x.a, x.b, Less(a, b))
		}
		a.Seq, b.Seq = 1, 9
		a.Node, b.Node = b.Node, a.Node
		if Less(a, b) != x.want {
			t.Errorf("%v %v: %v", x.a, x.b, Less(a, b))
		}
	}
}

func TestCopy(t *testing.T) {
	for _, kind := range append([]int{0, -7, math.MaxInt}, kinds...) {
		c := sample(kind)
		d := Copy(c)
		if !reflect.DeepEqual(c, d) {
			t.Errorf("%v: %v", c, d)
		}
		d.Deps[0] = 99
		if c.Deps[0] != 4 {
			t.Errorf("kind %d: the copy's Deps are the change's", kind)
		}
		c.Deps[1] = 98
		if d.Deps[1] != 0 {
			t.Errorf("kind %d: the change's Deps are the copy's", kind)
		}
	}
	if d := Copy(api.Change{Deps: []int{}}); len(d.Deps) != 0 {
		t.Errorf("%v", d)
	}
	// Of any change, wrong ones too.
	odd := api.Change{At: stamp(-1, -2), Seq: -3, Deps: []int{-4, 0, 0}, Kind: -5, Node: stamp(-6, 99), Parent: stamp(-7, 1), After: stamp(-8, 1), Name: "?", Value: strings.Repeat("x", 999)}
	if d := Copy(odd); !reflect.DeepEqual(odd, d) {
		t.Errorf("%v", d)
	}
}

func TestCopyLeavesTheRoom(t *testing.T) {
	list := []int{1, 2, 3, 4}
	d := Copy(api.Change{Deps: list[:2]})
	d.Deps = append(d.Deps, 99)
	if !slices.Equal(list, []int{1, 2, 3, 4}) {
		t.Errorf("%v", list)
	}
}

func TestNames(t *testing.T) {
	at := stamp(9, 2)
	for _, x := range []struct {
		node, parent, after api.Stamp
		want                []api.Stamp
	}{
		{at, stamp(4, 0), stamp(6, 3), []api.Stamp{stamp(4, 0), stamp(6, 3)}},
		{stamp(6, 3), stamp(4, 0), stamp(5, 1), []api.Stamp{stamp(4, 0), stamp(5, 1), stamp(6, 3)}},
		{stamp(4, 2), stamp(4, 1), stamp(4, 0), []api.Stamp{stamp(4, 0), stamp(4, 1), stamp(4, 2)}},
		{stamp(5, 1), stamp(4, 0), stamp(5, 1), []api.Stamp{stamp(4, 0), stamp(5, 1)}},
		{stamp(5, 1), stamp(5, 1), stamp(5, 1), []api.Stamp{stamp(5, 1)}},
		{stamp(3, 1), stamp(0, 1), stamp(8, 2), []api.Stamp{stamp(3, 1), stamp(8, 2)}},
		{at, stamp(0, 0), stamp(0, 0), nil},
		{at, at, at, nil},
		{stamp(0, 0), stamp(0, 1), stamp(0, 0), nil},
		{stamp(0, 2), stamp(1, 64), stamp(api.MaxCount+1, 0), nil},
		{stamp(-1, 0), stamp(1, -1), stamp(math.MaxInt, math.MaxInt), nil},
		{stamp(10, 0), at, stamp(9, 3), []api.Stamp{stamp(9, 3), stamp(10, 0)}},
		{stamp(api.MaxCount, 63), stamp(0, 0), stamp(1, 0), []api.Stamp{stamp(1, 0), stamp(api.MaxCount, 63)}},
	} {
		for _, kind := range []int{0, 1, 2, 3, 4, 5, 6, -1} {
			c := api.Change{At: at, Kind: kind, Node: x.node, Parent: x.parent, After: x.after}
			if got := Names(c); !slices.Equal(got, x.want) {
				t.Errorf("%v: %v", c, got)
			}
		}
	}
	// At itself, though it is not right.
	if got := Names(api.Change{}); len(got) != 0 {
		t.Errorf("%v", got)
	}
}

// P5.6, and what a right change names is what its kind has.
func TestNamesAreAheadOfAt(t *testing.T) {
	grid(func(c api.Change) {
		names := Names(c)
		if !slices.IsSortedFunc(names, ident.Compare) || len(slices.Compact(slices.Clone(names))) != len(names) {
			t.Errorf("%v: %v", c, names)
		}
		if Check(c) != api.OK {
			return
		}
		for _, s := range names {
			if !ident.Less(s, c.At) {
				t.Errorf("%v: %v", c, s)
			}
		}
		for _, s := range []api.Stamp{c.Node, c.Parent, c.After} {
			if ident.Right(s) && s != c.At && !slices.Contains(names, s) {
				t.Errorf("%v: %v lacks %v", c, names, s)
			}
		}
	})
}

// P5.4

// texts are right changes and their texts.
func texts() []struct {
	text string
	c    api.Change
} {
	last := stamp(api.MaxCount, 63)
	return []struct {
		text string
		c    api.Change
	}{
		{"create 3.1 1 2 root - p", api.Change{At: stamp(3, 1), Seq: 1, Deps: []int{2}, Kind: api.KCreate, Node: stamp(3, 1), Name: "p"}},
		{"create 1.0 1 - trash - a-9", api.Change{At: stamp(1, 0), Seq: 1, Kind: api.KCreate, Node: stamp(1, 0), Parent: stamp(0, 1), Name: "a-9"}},
		{"create 9.2 3 4,0,2,1 4.0 6.3 p", sample(api.KCreate)},
		{"create 1099511627776.63 1 - 1099511627776.62 1.0 p", api.Change{At: last, Seq: 1, Kind: api.KCreate, Node: last, Parent: stamp(api.MaxCount, 62), After: stamp(1, 0), Name: "p"}},
		{"move 9.0 2 1,4 3.1 trash 8.2", api.Change{At: stamp(9, 0), Seq: 2, Deps: []int{1, 4}, Kind: api.KMove, Node: stamp(3, 1), Parent: stamp(0, 1), After: stamp(8, 2)}},
		{"move 9.0 1 - 3.1 root -", api.Change{At: stamp(9, 0), Seq: 1, Kind: api.KMove, Node: stamp(3, 1)}},
		{"move 9.2 3 4,0,2,1 5.1 4.0 6.3", sample(api.KMove)},
		{"set 4.1 2 2,1 3.1 class \"a\\0a\"", api.Change{At: stamp(4, 1), Seq: 2, Deps: []int{2, 1}, Kind: api.KSet, Node: stamp(3, 1), Name: "class", Value: "a\n"}},
		{"set 4.1 1 - root a \"\"", api.Change{At: stamp(4, 1), Seq: 1, Kind: api.KSet, Name: "a"}},
		{"set 4.1 1 - root a \" b  c \"", api.Change{At: stamp(4, 1), Seq: 1, Kind: api.KSet, Name: "a", Value: " b  c "}},
		{"clear 4.1 2 2,1 root id", api.Change{At: stamp(4, 1), Seq: 2, Deps: []int{2, 1}, Kind: api.KClear, Name: "id"}},
		{"clear 9.2 3 4,0,2,1 5.1 class", sample(api.KClear)},
		{"text 4.1 1 - 3.0 \"\"", api.Change{At: stamp(4, 1), Seq: 1, Kind: api.KText, Node: stamp(3, 0)}},
		{"text 4.1 1 - root \"\\22\\5c\"", api.Change{At: stamp(4, 1), Seq: 1, Kind: api.KText, Value: "\"\\"}},
		{"text 9.2 3 4,0,2,1 5.1 \"a b\"", sample(api.KText)},
	}
}

func TestTextAndParse(t *testing.T) {
	for _, x := range texts() {
		if got, e := Text(x.c); got != x.text || e != api.OK {
			t.Errorf("%s: Text %q %d", x.text, got, e)
		}
		if got, e := Parse(x.text); !Same(got, x.c) || e != api.OK {
			t.Errorf("%s: Parse %v %d", x.text, got, e)
		}
	}
}

func TestParseRefuses(t *testing.T) {
	for _, s := range []string{
		"", " ", "create", "create ", "creat 3.1 1 2 root - p", "Create 3.1 1 2 root - p", "1 3.1 1 2 root - p", " 3.1 1 2 root - p",
		// words lacking, too many, with other blanks between
		"create 3.1 1 2 root -", "create 3.1 1 2 root - ", "create 3.1 1 2 root - p ", "create 3.1 1 2 root - p p", " create 3.1 1 2 root - p",
		"create  3.1 1 2 root - p", "create 3.1 1 2 root -  p", "create\t3.1 1 2 root - p", "create 3.1 1 2 root - p\n", "create 3.1 1 2 root - p\x00",
		"create 3.1 1 2 3.1 root - p", "create 3.1 1 root - p", "create 3.1 1 2 - p", "create 3.1 1 2 root - p \"\"",
		// At
		"create root 1 2 root - p", "create trash 1 2 root - p", "create - 1 2 root - p", "create 03.1 1 2 root - p", "create 3.64 1 2 root - p", "create 3 1 2 root - p", "create 0.1 1 2 root - p", "create 1099511627777.1 1 2 root - p",
		// Seq
		"create 3.1 0 2 root - p", "create 3.1 2 2 root - p", "create 3.1 01 2 root - p", "create 3.1 +1 2 root - p", "create 3.1 -1 2 root - p", "create 3.1 one 2 root - p", "create 3.1  2 root - p", "create 3.1 4 2,3 root - p", "create 3.1 1. 2 root - p",
		// Deps
		"create 3.1 1 2,0 root - p", "create 3.1 1 0 root - p", "create 3.1 1 02 root - p", "create 3.1 1 2,1 root - p", "create 3.1 1 ,2 root - p", "create 3.1 1 -1 root - p", "create 3.1 1 none root - p", "create 3.1 1  root - p",
		"create 3.1 1 " + strings.Repeat("0,", 64) + "1 root - p",
		// Parent, After, Name
		"create 3.1 1 2 - - p", "create 3.1 1 2 3.1 - p", "create 3.1 1 2 4.0 - p", "create 3.1 1 2 0.0 - p", "create 3.1 1 2 0.1 - p", "create 3.1 1 2 rooot - p",
		"create 3.1 1 2 root root p", "create 3.1 1 2 root trash p", "create 3.1 1 2 root 3.1 p", "create 3.1 1 2 root 3.2 p", "create 3.1 1 2 root -- p", "create 3.1 1 2 root 0.0 p", "create 3.1 1 2 root  p",
		"create 3.1 1 2 root - P", "create 3.1 1 2 root - 1", "create 3.1 1 2 root - \"p\"", "create 3.1 1 2 root - " + strings.Repeat("p", 33),
		// move
		"move 9.0 2 1 9.0 root -", "move 9.0 2 1 root trash -", "move 9.0 2 1 trash root -", "move 9.0 2 1 - root -", "move 9.0 2 1 3.1 3.1 -", "move 9.0 2 1 9.1 root -", "move 9.0 2 1 3.1 9.1 -", "move 9.0 2 1 3.1 root 9.0", "move 9.0 2 1 3.1 root root", "move 9.0 2 1 3.1 root", "move 9.0 2 1 3.1 root - p", "move 9.0 2 1 3.1 root - ", "move 9.0 2 1 root -",
		// set
		"set 4.1 2 2,1 5.1 class \"\"", "set 4.1 2 2,1 4.1 class \"\"", "set 4.1 2 2,1 trash class \"\"", "set 4.1 2 2,1 - class \"\"", "set 4.1 2 2,1 3.1 Class \"\"", "set 4.1 2 2,1 3.1  \"\"", "set 4.1 2 2,1 3.1 \"\"", "set 4.1 2 2,1 3.1 class", "set 4.1 2 2,1 3.1 class ", "set 4.1 2 2,1 3.1 class a", "set 4.1 2 2,1 3.1 class \"", "set 4.1 2 2,1 3.1 class \"a\"b\"", "set 4.1 2 2,1 3.1 class \"a\" ", "set 4.1 2 2,1 3.1 class  \"a\"", "set 4.1 2 2,1 3.1 class \"\\0A\"", "set 4.1 2 2,1 3.1 class \"\\61\"", "set 4.1 2 2,1 3.1 class \"\n\"",
		"set 4.1 2 2,1 3.1 class \"" + strings.Repeat("x", 257) + "\"", "set 4.1 2 2,1 3.1 class \"" + strings.Repeat("\\00", 257) + "\"",
		// clear
		"clear 4.1 2 2,1 trash id", "clear 4.1 2 2,1 root", "clear 4.1 2 2,1 root ", "clear 4.1 2 2,1 root id \"\"", "clear 4.1 2 2,1 root id ", "clear 4.1 2 2,1 root ID", "clear 4.1 2 2,1 4.1 id", "clear 4.1 2 2,1 - id",
		// text
		"text 4.1 1 - 3.0 \"", "text  4.1 1 - 3.0 \"\"", "text 4.1 1 - 3.0", "text 4.1 1 - 3.0 ", "text 4.1 1 - 3.0 a \"\"", "text 4.1 1 - 3.0 \"\" ", "text 4.1 1 - trash \"\"", "text 4.1 1 - 4.1 \"\"", "text 4.1 1 - 4.2 \"\"", "text 4.1 1 - - \"\"", "text 4.1 1 - 3.0 \"\x7f\"", "text 4.1 1 - 3.0 \"" + strings.Repeat("x", 257) + "\"",
		strings.Repeat("a", api.MaxText), strings.Repeat(" ", api.MaxText), "text 4.1 " + strings.Repeat("1", api.MaxText-100) + " - 3.0 \"\"",
	} {
		if c, e := Parse(s); e != api.ErrForm || !reflect.DeepEqual(c, api.Change{}) {
			t.Errorf("%.60q: %v %d", s, c, e)
		}
	}
}

func TestParseOfLongTexts(t *testing.T) {
	head := "text 4.1 1 - 3.0 \""
	for _, s := range []string{
		strings.Repeat("a", api.MaxText+1),
		strings.Repeat(" ", 2*api.MaxText),
		head + strings.Repeat("x", api.MaxText-len(head)) + "\"",
	} {
		if c, e := Parse(s); e != api.ErrLong || !reflect.DeepEqual(c, api.Change{}) {
			t.Errorf("%d bytes: %v %d", len(s), c, e)
		}
	}
	if _, e := Parse(head + strings.Repeat("x", api.MaxText-len(head)-1) + "\""); e != api.ErrForm {
		t.Errorf("just MaxText bytes: %d", e)
	}
}

// The longest text that a right change has is read.
func TestParseOfTheLongestChange(t *testing.T) {
	deps := slices.Repeat([]int{api.MaxCount}, api.MaxReplicas)
	deps[63]--
	c := api.Change{At: stamp(api.MaxCount, 63), Seq: api.MaxCount, Deps: deps, Kind: api.KSet, Node: stamp(api.MaxCount, 62), Name: strings.Repeat("a", api.MaxName), Value: strings.Repeat("\x00", api.MaxValue)}
	text, e := Text(c)
	if e != api.OK || len(text) > api.MaxText {
		t.Fatalf("%d bytes: %d", len(text), e)
	}
	if got, e := Parse(text); e != api.OK || !Same(got, c) {
		t.Errorf("%v %d", got, e)
	}
}

// P5.5

func randomStamp(r *rand.Rand, at api.Stamp) api.Stamp {
	s := stamp(1+r.Intn(at.Count), r.Intn(api.MaxReplicas))
	if !ident.Less(s, at) {
		return api.Stamp{}
	}
	return s
}

// randomChange tells a change that is right more often than not.
func randomChange(r *rand.Rand) api.Change {
	c := api.Change{At: stamp(1+r.Intn(1<<r.Intn(41)), r.Intn(api.MaxReplicas)), Kind: 1 + r.Intn(5)}
	c.Seq = 1 + r.Intn(c.At.Count)
	c.Deps = make([]int, api.MaxReplicas)
	for i := range r.Intn(api.MaxReplicas) {
		c.Deps[i] = r.Intn(1 << r.Intn(41))
	}
	c.Deps[c.At.Replica] = c.Seq - 1
	c.Deps = clock.Trim(c.Deps)
	c.Node = randomStamp(r, c.At)
	if c.Kind == api.KCreate {
		c.Node = c.At
	}
	if c.Kind <= api.KMove {
		c.Parent, c.After = randomStamp(r, c.At), randomStamp(r, c.At)
	}
	if c.Kind != api.KMove && c.Kind != api.KText {
		c.Name = "a" + strings.Repeat("-", r.Intn(api.MaxName))
	}
	if c.Kind == api.KSet || c.Kind == api.KText {
		b := make([]byte, r.Intn(api.MaxValue+1))
		r.Read(b)
		c.Value = string(b)
	}
	return c
}

func TestTextIsReadBack(t *testing.T) {
	r := rand.New(rand.NewSource(1))
	n := [6]int{}
	for range 20000 {
		c := randomChange(r)
		text, e := Text(c)
		if e != Check(c) {
			t.Fatalf("%v: %d", c, e)
		}
		if e != api.OK {
			continue
		}
		n[c.Kind]++
		if got, e := Parse(text); e != api.OK || !Same(got, c) {
			t.Errorf("%s: %v %d", text, got, e)
		}
	}
	for _, kind := range kinds {
		if n[kind] < 1000 {
			t.Errorf("kind %d: %d changes", kind, n[kind])
		}
	}
}

// A text that was turned a little is another change's, or none.
func TestTurnedTextsAreReadStrictly(t *testing.T) {
	const signs = " -.,\"\\019aptrz\x00\xff"
	for _, x := range texts() {
		for i := range len(x.text) + 1 {
			try := func(s string) {
				c, e := Parse(s)
				if e != api.OK {
					return
				}
				if back, e := Text(c); e != api.OK || back != s {
					t.Errorf("%q: %q %d", s, back, e)
				}
				if s != x.text && Same(c, x.c) {
					t.Errorf("%q is read as %q", s, x.text)
				}
			}
			for _, sign := range []byte(signs) {
				try(x.text[:i] + string([]byte{sign}) + x.text[i:])
				if i < len(x.text) {
					try(x.text[:i] + string([]byte{sign}) + x.text[i+1:])
				}
			}
			try(x.text[:i])
			try(x.text[i:])
			if i < len(x.text) {
				try(x.text[:i] + x.text[i+1:])
			}
		}
	}
}

// Right changes that differ have texts that differ.
func TestTextsAreApart(t *testing.T) {
	seen := map[string]api.Change{}
	grid(func(c api.Change) {
		text, e := Text(c)
		if e != api.OK {
			return
		}
		if d, twice := seen[text]; twice {
			t.Errorf("%s: %v, %v", text, c, d)
		}
		seen[text] = c
	})
}

// Rule 3

func TestNothingIsChanged(t *testing.T) {
	for _, kind := range append([]int{0}, kinds...) {
		room := []int{4, 0, 2, 1, 7, 8}
		c := sample(kind)
		c.Deps = room[:4]
		Check(c)
		Same(c, Copy(c))
		Less(c, c)
		Names(c)
		Text(c)
		if !slices.Equal(room, []int{4, 0, 2, 1, 7, 8}) {
			t.Errorf("kind %d: %v", kind, room)
		}
	}
}

func TestAnswersAreNew(t *testing.T) {
	text := "set 4.1 2 2,1 3.1 class \"a\""
	first, _ := Parse(text)
	first.Deps[0] = 99
	if second, e := Parse(text); e != api.OK || second.Deps[0] != 2 {
		t.Errorf("%v %d", second, e)
	}
	c := sample(api.KMove)
	Names(c)[0] = stamp(99, 0)
	if got := Names(c); got[0] != stamp(4, 0) {
		t.Errorf("%v", got)
	}
}

func FuzzTextOfParse(f *testing.F) {
	for _, x := range texts() {
		f.Add(x.text)
	}
	f.Fuzz(func(t *testing.T, s string) {
		c, e := Parse(s)
		if e != api.OK {
			if e != api.ErrForm && e != api.ErrLong || !reflect.DeepEqual(c, api.Change{}) {
				t.Errorf("%q: %v %d", s, c, e)
			}
			return
		}
		if back, e := Text(c); e != api.OK || back != s {
			t.Errorf("%q: %q %d", s, back, e)
		}
	})
}
