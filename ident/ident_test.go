package ident

import (
	"math"
	"slices"
	"strconv"
	"strings"
	"testing"

	"topiary/api"
)

func stamp(count, replica int) api.Stamp {
	return api.Stamp{Count: count, Replica: replica}
}

var edgeCounts = []int{math.MinInt, -1, 0, 1, 2, api.MaxCount - 1, api.MaxCount, api.MaxCount + 1, math.MaxInt}

var edgeReplicas = []int{math.MinInt, -1, 0, 1, 2, api.MaxReplicas - 1, api.MaxReplicas, math.MaxInt}

func edgeStamps() []api.Stamp {
	var out []api.Stamp
	for _, c := range edgeCounts {
		for _, r := range edgeReplicas {
			out = append(out, stamp(c, r))
		}
	}
	return out
}

// P1.1

func TestRightAndNode(t *testing.T) {
	for _, x := range []struct {
		s           api.Stamp
		right, node bool
	}{
		{stamp(1, 0), true, true},
		{stamp(8, 3), true, true},
		{stamp(1, 63), true, true},
		{stamp(api.MaxCount, 0), true, true},
		{stamp(api.MaxCount, 63), true, true},
		{stamp(0, 0), false, true},
		{stamp(0, 1), false, true},
		{stamp(0, 2), false, false},
		{stamp(0, 63), false, false},
		{stamp(0, -1), false, false},
		{stamp(0, 64), false, false},
		{stamp(-1, 0), false, false},
		{stamp(-1, 1), false, false},
		{stamp(1, -1), false, false},
		{stamp(1, 64), false, false},
		{stamp(api.MaxCount+1, 0), false, false},
		{stamp(api.MaxCount, 64), false, false},
		{stamp(api.MaxCount, -1), false, false},
		{stamp(math.MaxInt, 1), false, false},
		{stamp(math.MinInt, 1), false, false},
		{stamp(1, math.MaxInt), false, false},
		{stamp(1, math.MinInt), false, false},
	} {
		if Right(x.s) != x.right || Node(x.s) != x.node {
			t.Errorf("%v: right %v, node %v", x.s, Right(x.s), Node(x.s))
		}
	}
}

func TestEveryReplicaIsRight(t *testing.T) {
	n := 0
	for r := -100; r < 200; r++ {
		if Right(stamp(1, r)) {
			n++
		}
	}
	if n != api.MaxReplicas {
		t.Errorf("%d replicas", n)
	}
}

func TestCompare(t *testing.T) {
	for _, x := range []struct {
		a, b api.Stamp
		want int
	}{
		{stamp(1, 5), stamp(2, 0), -1},
		{stamp(2, 0), stamp(2, 1), -1},
		{stamp(2, 1), stamp(2, 0), 1},
		{stamp(2, 0), stamp(1, 5), 1},
		{stamp(2, 1), stamp(2, 1), 0},
		{stamp(0, 0), stamp(0, 1), -1},
		{stamp(0, 1), stamp(1, 0), -1},
		{stamp(9, 0), stamp(10, 0), -1},
		{stamp(1, 9), stamp(1, 10), -1},
		{stamp(-1, 0), stamp(0, 0), -1},
		{stamp(0, -1), stamp(0, 0), -1},
		{stamp(math.MinInt, 0), stamp(math.MaxInt, 0), -1},
		{stamp(math.MaxInt, 0), stamp(math.MinInt, 0), 1},
		{stamp(math.MaxInt, 0), stamp(-1, 0), 1},
		{stamp(0, math.MinInt), stamp(0, math.MaxInt), -1},
		{stamp(0, math.MaxInt), stamp(0, math.MinInt), 1},
		{stamp(math.MinInt, math.MaxInt), stamp(math.MaxInt, math.MinInt), -1},
	} {
		if got := Compare(x.a, x.b); got != x.want {
			t.Errorf("Compare(%v, %v): %d", x.a, x.b, got)
		}
		if got := Less(x.a, x.b); got != (x.want < 0) {
			t.Errorf("Less(%v, %v): %v", x.a, x.b, got)
		}
	}
}

// P1.2

func TestNext(t *testing.T) {
	for _, x := range []struct {
		seen, replica int
		want          api.Stamp
		e             api.Errno
	}{
		{7, 3, stamp(8, 3), api.OK},
		{0, 0, stamp(1, 0), api.OK},
		{0, 63, stamp(1, 63), api.OK},
		{1, 1, stamp(2, 1), api.OK},
		{api.MaxCount - 1, 63, stamp(api.MaxCount, 63), api.OK},
		{api.MaxCount, 0, api.Stamp{}, api.ErrFull},
		{api.MaxCount, 63, api.Stamp{}, api.ErrFull},
		{api.MaxCount, 64, api.Stamp{}, api.ErrRange},
		{api.MaxCount, -1, api.Stamp{}, api.ErrRange},
		{api.MaxCount + 1, 0, api.Stamp{}, api.ErrRange},
		{-1, 0, api.Stamp{}, api.ErrRange},
		{0, -1, api.Stamp{}, api.ErrRange},
		{0, 64, api.Stamp{}, api.ErrRange},
		{-1, 64, api.Stamp{}, api.ErrRange},
		{math.MaxInt, 0, api.Stamp{}, api.ErrRange},
		{math.MinInt, 0, api.Stamp{}, api.ErrRange},
		{0, math.MaxInt, api.Stamp{}, api.ErrRange},
		{0, math.MinInt, api.Stamp{}, api.ErrRange},
	} {
		if got, e := Next(x.seen, x.replica); got != x.want || e != x.e {
			t.Errorf("Next(%d, %d): %v %d", x.seen, x.replica, got, e)
		}
	}
}

func TestSeen(t *testing.T) {
	for _, x := range []struct {
		seen int
		s    api.Stamp
		want int
		e    api.Errno
	}{
		{3, stamp(9, 0), 9, api.OK},
		{9, stamp(3, 0), 9, api.OK},
		{9, stamp(9, 63), 9, api.OK},
		{0, stamp(1, 0), 1, api.OK},
		{0, stamp(api.MaxCount, 63), api.MaxCount, api.OK},
		{api.MaxCount, stamp(1, 0), api.MaxCount, api.OK},
		{api.MaxCount, stamp(api.MaxCount, 0), api.MaxCount, api.OK},
		{3, stamp(0, 0), 0, api.ErrForm},
		{3, stamp(0, 1), 0, api.ErrForm},
		{3, stamp(-1, 0), 0, api.ErrForm},
		{3, stamp(9, -1), 0, api.ErrForm},
		{3, stamp(9, 64), 0, api.ErrForm},
		{3, stamp(api.MaxCount+1, 0), 0, api.ErrForm},
		{api.MaxCount, stamp(0, 0), 0, api.ErrForm},
		{-1, stamp(9, 0), 0, api.ErrRange},
		{api.MaxCount + 1, stamp(9, 0), 0, api.ErrRange},
		{math.MinInt, stamp(9, 0), 0, api.ErrRange},
		{math.MaxInt, stamp(9, 0), 0, api.ErrRange},
		{-1, stamp(0, 0), 0, api.ErrRange},
		{api.MaxCount + 1, stamp(9, 64), 0, api.ErrRange},
	} {
		if got, e := Seen(x.seen, x.s); got != x.want || e != x.e {
			t.Errorf("Seen(%d, %v): %d %d", x.seen, x.s, got, e)
		}
	}
}

// P1.3

func TestText(t *testing.T) {
	for _, x := range []struct {
		s    api.Stamp
		want string
		e    api.Errno
	}{
		{stamp(8, 3), "8.3", api.OK},
		{stamp(0, 0), "root", api.OK},
		{stamp(0, 1), "trash", api.OK},
		{stamp(1, 0), "1.0", api.OK},
		{stamp(1, 1), "1.1", api.OK},
		{stamp(10, 10), "10.10", api.OK},
		{stamp(1, 63), "1.63", api.OK},
		{stamp(api.MaxCount, 63), "1099511627776.63", api.OK},
		{stamp(api.MaxCount+1, 0), "", api.ErrForm},
		{stamp(0, 2), "", api.ErrForm},
		{stamp(0, -1), "", api.ErrForm},
		{stamp(-1, 0), "", api.ErrForm},
		{stamp(1, -1), "", api.ErrForm},
		{stamp(1, 64), "", api.ErrForm},
		{stamp(math.MinInt, math.MinInt), "", api.ErrForm},
		{stamp(math.MaxInt, math.MaxInt), "", api.ErrForm},
	} {
		if got, e := Text(x.s); got != x.want || e != x.e {
			t.Errorf("Text(%v): %q %d", x.s, got, e)
		}
	}
}

func TestParse(t *testing.T) {
	for _, x := range []struct {
		s    string
		want api.Stamp
	}{
		{"8.3", stamp(8, 3)},
		{"root", stamp(0, 0)},
		{"trash", stamp(0, 1)},
		{"1.0", stamp(1, 0)},
		{"10.10", stamp(10, 10)},
		{"1.63", stamp(1, 63)},
		{"1099511627776.63", stamp(api.MaxCount, 63)},
	} {
		if got, e := Parse(x.s); got != x.want || e != api.OK {
			t.Errorf("Parse(%q): %v %d", x.s, got, e)
		}
	}
}

func TestParseRefuses(t *testing.T) {
	huge := strings.Repeat("9", 100000)
	for _, s := range []string{
		"", ".", "8", "8.", ".3", "8..3", "8.3.", ".8.3", "8.3.1", "8,3",
		"08.3", "8.03", "00.0", "8.00", "01099511627776.0",
		"0.0", "0.1", "0.2", "0.63",
		"+8.3", "8.+3", "-8.3", "8.-3", "-0.0", "-0.1", "8.-0", "-1.0", "+0.0",
		" 8.3", "8.3 ", "8 .3", "8. 3", "8.3\n", "\t8.3", "8.3\x00",
		"8.64", "8.-1", "8.100", "1099511627777.0", "1099511627776.64",
		"9223372036854775807.0", "9223372036854775808.0", "18446744073709551617.0", "1.18446744073709551617",
		huge, huge + ".0", "1." + huge, strings.Repeat("0", 100000) + "1.0", strings.Repeat(".", 1000),
		"0x8.3", "1_0.3", "1e3.0", "8.3e0", "a.b", "eight.3", "8.three",
		"\u0668.\u0663", "\uff18.\uff13", "8\uff0e3", "8\xff.3", "\xff",
		"Root", "ROOT", "root ", " root", "roo", "roots", "root.0", "Trash", "trash ", "tras", "trash.1", "root.trash",
	} {
		if got, e := Parse(s); got != (api.Stamp{}) || e != api.ErrForm {
			t.Errorf("Parse(%.40q): %v %d", s, got, e)
		}
	}
}

// Whatever short text there is: it is read just if some node's name is written so.
func TestParseReadsJustTexts(t *testing.T) {
	const signs, longest = "0169.-+ ", 5
	texts := map[string]api.Stamp{}
	for c := range 1000 {
		for r := range 1000 {
			if s := stamp(c, r); Node(s) {
				texts[written(s)] = s
			}
		}
	}
	var look func(s string)
	look = func(s string) {
		got, e := Parse(s)
		want, ok := texts[s]
		if ok != (e == api.OK) || got != want {
			t.Errorf("Parse(%q): %v %d", s, got, e)
		}
		if len(s) == longest {
			return
		}
		for i := range len(signs) {
			look(s + signs[i:i+1])
		}
	}
	look("")
}

func written(s api.Stamp) string {
	switch s {
	case stamp(0, 0):
		return "root"
	case stamp(0, 1):
		return "trash"
	}
	return strconv.Itoa(s.Count) + "." + strconv.Itoa(s.Replica)
}

// P1.4

func collect(l []api.Stamp) []api.Stamp {
	var out []api.Stamp
	for s := range Rising(l) {
		out = append(out, s)
	}
	return out
}

func TestSortAndRising(t *testing.T) {
	for _, x := range []struct{ l, want []api.Stamp }{
		{nil, nil},
		{[]api.Stamp{}, nil},
		{[]api.Stamp{{}}, []api.Stamp{{}}},
		{[]api.Stamp{stamp(5, 5), stamp(5, 5), stamp(5, 5)}, []api.Stamp{stamp(5, 5)}},
		{
			[]api.Stamp{stamp(2, 1), stamp(1, 5), stamp(2, 0), stamp(2, 1)},
			[]api.Stamp{stamp(1, 5), stamp(2, 0), stamp(2, 1)},
		},
		{
			[]api.Stamp{stamp(0, 1), stamp(0, 0), stamp(1, 64), stamp(-1, 9), stamp(math.MaxInt, 0), stamp(math.MinInt, 0), stamp(0, 0), stamp(0, -7)},
			[]api.Stamp{stamp(math.MinInt, 0), stamp(-1, 9), stamp(0, -7), stamp(0, 0), stamp(0, 1), stamp(1, 64), stamp(math.MaxInt, 0)},
		},
	} {
		if got := Sort(x.l); !slices.Equal(got, x.want) {
			t.Errorf("Sort(%v): %v", x.l, got)
		}
		if got := collect(x.l); !slices.Equal(got, x.want) {
			t.Errorf("Rising(%v): %v", x.l, got)
		}
	}
}

func manyStamps(n int) []api.Stamp {
	var out []api.Stamp
	x := uint32(1)
	for range n {
		x = x*1664525 + 1013904223
		out = append(out, stamp(int(x>>16)%50, int(x>>8)%20))
	}
	return out
}

func TestSortOfMany(t *testing.T) {
	for _, n := range []int{1, 2, 3, 11, 12, 13, 50, 100, 1000, 5000} {
		l := manyStamps(n)
		got := Sort(l)
		for i := 1; i < len(got); i++ {
			if Compare(got[i-1], got[i]) != -1 {
				t.Fatalf("%d stamps: %v ahead of %v", n, got[i-1], got[i])
			}
		}
		in := map[api.Stamp]int{}
		for _, s := range l {
			in[s] = 1
		}
		for _, s := range got {
			if in[s] == 0 {
				t.Errorf("%d stamps: %v is new", n, s)
			}
		}
		if len(got) != len(in) {
			t.Errorf("%d stamps: %d, not %d", n, len(got), len(in))
		}
		if !slices.Equal(collect(l), got) {
			t.Errorf("%d stamps: Rising is not Sort", n)
		}
	}
}

func TestSortLeavesWhatItIsGiven(t *testing.T) {
	room := []api.Stamp{stamp(3, 0), stamp(1, 0), stamp(3, 0), stamp(9, 9), stamp(8, 8)}
	was := slices.Clone(room)
	l := room[:3]
	got := Sort(l)
	collect(l)
	if !slices.Equal(room, was) {
		t.Errorf("changed: %v", room)
	}
	for i := range got {
		got[i] = stamp(77, 7)
	}
	_ = append(got, stamp(78, 8))
	if !slices.Equal(room, was) {
		t.Errorf("shared: %v", room)
	}
	sorted := []api.Stamp{stamp(1, 0), stamp(2, 0)}
	Sort(sorted)[0] = stamp(77, 7)
	if sorted[0] != stamp(1, 0) {
		t.Errorf("a list that is in order already is shared: %v", sorted)
	}
}

func TestRisingIsAsAtTheCall(t *testing.T) {
	l := []api.Stamp{stamp(2, 0), stamp(1, 0)}
	seq := Rising(l)
	l[0], l[1] = stamp(9, 9), stamp(8, 8)
	want := []api.Stamp{stamp(1, 0), stamp(2, 0)}
	for range 2 {
		if got := slices.Collect(seq); !slices.Equal(got, want) {
			t.Errorf("%v", got)
		}
	}
}

func TestRisingIsLeftAndGoneOverAgain(t *testing.T) {
	seq := Rising(manyStamps(100))
	all := slices.Collect(seq)
	for most := 1; most <= len(all); most++ {
		var got []api.Stamp
		for s := range seq {
			got = append(got, s)
			if len(got) == most {
				break
			}
		}
		if !slices.Equal(got, all[:most]) {
			t.Fatalf("left behind %d: %v", most, got)
		}
	}
	if again := slices.Collect(seq); !slices.Equal(again, all) {
		t.Errorf("again: %v", again)
	}
}

func TestRisingWithinItself(t *testing.T) {
	seq := Rising([]api.Stamp{stamp(3, 0), stamp(2, 0), stamp(1, 0)})
	n := 0
	for a := range seq {
		for b := range seq {
			if Less(a, b) {
				n++
			}
		}
	}
	if n != 3 {
		t.Errorf("%d pairs", n)
	}
}

func TestRisingIsNeverNil(t *testing.T) {
	for _, l := range [][]api.Stamp{nil, {}, {{}}} {
		if Rising(l) == nil {
			t.Errorf("Rising(%v) is nil", l)
		}
	}
	for s := range Rising(nil) {
		t.Errorf("%v of nothing", s)
	}
}

// P1.5

func TestTheOrderIsOne(t *testing.T) {
	all := edgeStamps()
	for _, a := range all {
		for _, b := range all {
			c := Compare(a, b)
			if c < -1 || c > 1 || (c == 0) != (a == b) || Compare(b, a) != -c {
				t.Fatalf("%v, %v: %d", a, b, c)
			}
			if Less(a, b) != (c == -1) {
				t.Fatalf("%v, %v: Less is not Compare", a, b)
			}
		}
	}
}

func TestAheadOfAheadIsAhead(t *testing.T) {
	all := edgeStamps()
	for _, a := range all {
		for _, b := range all {
			if !Less(a, b) {
				continue
			}
			for _, c := range all {
				if Less(b, c) && !Less(a, c) {
					t.Fatalf("%v, %v, %v", a, b, c)
				}
			}
		}
	}
}

// P1.6

func TestParseOfText(t *testing.T) {
	for _, s := range append(edgeStamps(), manyStamps(2000)...) {
		text, e := Text(s)
		if !Node(s) {
			if e != api.ErrForm {
				t.Errorf("%v: %q %d", s, text, e)
			}
			continue
		}
		got, f := Parse(text)
		if e != api.OK || f != api.OK || got != s {
			t.Errorf("%v: %q %d, %v %d", s, text, e, got, f)
		}
	}
}

func FuzzTextOfParse(f *testing.F) {
	for _, s := range []string{"", "root", "trash", "8.3", "08.3", "8.03", "+8.3", "0.0", "0.1", "1099511627776.63", "1099511627777.0", "8.64"} {
		f.Add(s)
	}
	f.Fuzz(func(t *testing.T, s string) {
		got, e := Parse(s)
		if e != api.OK {
			if e != api.ErrForm || got != (api.Stamp{}) {
				t.Errorf("Parse(%q): %v %d", s, got, e)
			}
			return
		}
		if back, e := Text(got); e != api.OK || back != s || !Node(got) {
			t.Errorf("%q: %v, %q %d", s, got, back, e)
		}
	})
}

func TestNextIsBehindAllThatWasSeen(t *testing.T) {
	seen, e := 0, api.OK
	all := append(manyStamps(500), stamp(api.MaxCount-2, 63), stamp(api.MaxCount-1, 63), stamp(4, 4))
	var met []api.Stamp
	for _, s := range all {
		if !Right(s) {
			continue
		}
		met = append(met, s)
		if seen, e = Seen(seen, s); e != api.OK {
			t.Fatalf("Seen of %v: %d", s, e)
		}
		for _, r := range []int{0, 1, 63} {
			next, e := Next(seen, r)
			if e != api.OK || !Right(next) || next.Replica != r {
				t.Fatalf("Next(%d, %d): %v %d", seen, r, next, e)
			}
			for _, m := range met {
				if !Less(m, next) {
					t.Fatalf("%v is not behind %v", next, m)
				}
			}
		}
	}
}

// Whoever has seen all of them is told that there is none behind.
func TestNothingIsBehindTheLastCount(t *testing.T) {
	seen, e := Seen(5, stamp(api.MaxCount, 2))
	if e != api.OK {
		t.Fatal(e)
	}
	if s, e := Next(seen, 2); e != api.ErrFull || s != (api.Stamp{}) {
		t.Errorf("%v %d", s, e)
	}
}
