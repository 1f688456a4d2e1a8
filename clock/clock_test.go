package clock

import (
	"iter"
	"math"
	"regexp"
	"slices"
	"strings"
	"testing"

	"topiary/api"
)

func list(numbers ...int) []int { return numbers }

func span(replica, from, to int) api.Span {
	return api.Span{Replica: replica, From: from, To: to}
}

// full tells a clock of n numbers, all of them number.
func full(n, number int) []int { return slices.Repeat([]int{number}, n) }

// last tells a clock of which the last replica alone has a number.
func last(number int) []int { return append(make([]int, api.MaxReplicas-1), number) }

// wrongLists are all that Check refuses, each with its error.
var wrongLists = []struct {
	c []int
	e api.Errno
}{
	{make([]int, 65), api.ErrLong},
	{full(65, 1), api.ErrLong},
	{full(65, -1), api.ErrLong},
	{append(last(1), api.MaxCount+1), api.ErrLong},
	{make([]int, 1000), api.ErrLong},
	{list(-1), api.ErrRange},
	{list(api.MaxCount + 1), api.ErrRange},
	{list(math.MinInt), api.ErrRange},
	{list(math.MaxInt), api.ErrRange},
	{list(1, 2, -1), api.ErrRange},
	{list(-1, 2, 3), api.ErrRange},
	{list(1, -1, 3), api.ErrRange},
	{list(1, api.MaxCount+1, 3), api.ErrRange},
	{list(-1, 0, 0), api.ErrRange},
	{last(-1), api.ErrRange},
	{last(api.MaxCount + 1), api.ErrRange},
}

// someClocks are right ones, trimmed and not.
func someClocks() [][]int {
	return [][]int{
		nil, {}, list(0), list(0, 0), make([]int, 64),
		list(1), list(1, 0), list(0, 1), list(1, 1), list(1, 2), list(2, 1), list(1, 0, 3), list(0, 2), list(0, 4, 0), list(9, 10, 11), list(1, 0, 0, 0, 5, 0),
		list(api.MaxCount), list(0, api.MaxCount), list(api.MaxCount-1, 1),
		last(1), last(api.MaxCount), full(64, 1), full(64, api.MaxCount), full(63, 7),
	}
}

// smallClocks are all lists of at most three numbers, each of them at most 2.
func smallClocks() [][]int {
	out := [][]int{nil}
	for i := 0; i < len(out); i++ {
		if len(out[i]) == 3 {
			continue
		}
		for n := range 3 {
			out = append(out, append(slices.Clone(out[i]), n))
		}
	}
	return out
}

// The tests' own word for the least common clock, found number by number.
func greater(a, b []int) []int {
	var out [200]int
	copy(out[:], a)
	for r, n := range b {
		if n > out[r] {
			out[r] = n
		}
	}
	end := 0
	for r, n := range out {
		if n != 0 {
			end = r + 1
		}
	}
	return out[:end:end]
}

// P2.1

func TestCheck(t *testing.T) {
	for _, c := range someClocks() {
		if e := Check(c); e != api.OK {
			t.Errorf("%v: %d", c, e)
		}
	}
	for _, x := range wrongLists {
		if e := Check(x.c); e != x.e {
			t.Errorf("%v: %d", x.c, e)
		}
	}
}

func TestCheckLooksAtEveryPlace(t *testing.T) {
	for n := 1; n <= api.MaxReplicas; n++ {
		for r := range n {
			for _, wrong := range []int{-1, api.MaxCount + 1} {
				c := full(n, 1)
				c[r] = wrong
				if e := Check(c); e != api.ErrRange {
					t.Fatalf("%d at %d of %d: %d", wrong, r, n, e)
				}
			}
		}
	}
}

func TestAt(t *testing.T) {
	for _, x := range []struct {
		c       []int
		r, want int
	}{
		{list(7, 8, 9), 0, 7},
		{list(7, 8, 9), 1, 8},
		{list(7, 8, 9), 2, 9},
		{list(7, 8, 9), 3, 0},
		{list(7, 8, 9), 63, 0},
		{list(7, 8, 9), 64, 0},
		{list(7, 8, 9), -1, 0},
		{list(7, 8, 9), math.MaxInt, 0},
		{list(7, 8, 9), math.MinInt, 0},
		{nil, 0, 0},
		{nil, -1, 0},
		{list(), 0, 0},
		{list(-5, math.MaxInt, math.MinInt), 0, -5},
		{list(-5, math.MaxInt, math.MinInt), 1, math.MaxInt},
		{list(-5, math.MaxInt, math.MinInt), 2, math.MinInt},
		{full(100, 6), 64, 6},
		{full(100, 6), 99, 6},
		{full(100, 6), 100, 0},
		{list(1, 2, 3)[:1], 1, 0},
	} {
		if got := At(x.c, x.r); got != x.want {
			t.Errorf("At(%v, %d): %d", x.c, x.r, got)
		}
	}
}

func TestTrim(t *testing.T) {
	for _, x := range []struct{ c, want []int }{
		{nil, nil},
		{list(), nil},
		{list(0), nil},
		{make([]int, 64), nil},
		{make([]int, 1000), nil},
		{list(0, 4, 0), list(0, 4)},
		{list(1, 0, 0), list(1)},
		{list(1, 2), list(1, 2)},
		{list(0, 0, 1), list(0, 0, 1)},
		{list(1, 0, 2, 0), list(1, 0, 2)},
		{list(-1, 0), list(-1)},
		{list(0, -1), list(0, -1)},
		{list(math.MinInt, 0, math.MaxInt, 0, 0), list(math.MinInt, 0, math.MaxInt)},
		{append(full(100, 3), 0, 0), full(100, 3)},
		{last(1), last(1)},
		{list(1, 0, 3)[:2], list(1)},
	} {
		if got := Trim(x.c); !slices.Equal(got, x.want) {
			t.Errorf("Trim(%v): %v", x.c, got)
		}
	}
}

// P2.2

func TestMerge(t *testing.T) {
	for _, x := range []struct{ a, b, want []int }{
		{list(1, 0, 3), list(0, 2), list(1, 2, 3)},
		{list(0, 2), list(1, 0, 3), list(1, 2, 3)},
		{nil, nil, nil},
		{list(0, 0), list(0), nil},
		{nil, list(1, 0), list(1)},
		{list(1, 0), nil, list(1)},
		{list(5), list(5), list(5)},
		{list(5, 1), list(1, 5), list(5, 5)},
		{list(1, 0, 0), list(0, 0, 0, 0), list(1)},
		{last(1), list(2), append(list(2), last(1)[1:]...)},
		{full(64, api.MaxCount), full(64, 1), full(64, api.MaxCount)},
		{list(api.MaxCount), list(api.MaxCount - 1), list(api.MaxCount)},
	} {
		if got, e := Merge(x.a, x.b); e != api.OK || !slices.Equal(got, x.want) {
			t.Errorf("Merge(%v, %v): %v %d", x.a, x.b, got, e)
		}
	}
	for _, a := range someClocks() {
		for _, b := range someClocks() {
			if got, e := Merge(a, b); e != api.OK || !slices.Equal(got, greater(a, b)) {
				t.Errorf("Merge(%v, %v): %v %d", a, b, got, e)
			}
		}
	}
}

func TestCompare(t *testing.T) {
	for _, x := range []struct {
		a, b []int
		want int
	}{
		{list(1, 0), list(1), Same},
		{list(1), list(1, 0), Same},
		{nil, nil, Same},
		{nil, list(0, 0), Same},
		{list(0), nil, Same},
		{list(3, 2), list(3, 2), Same},
		{list(1), list(1, 2), Below},
		{list(1, 2), list(1), Above},
		{nil, list(1), Below},
		{list(1), nil, Above},
		{list(0, 0), list(0, 0, 1), Below},
		{list(1, 1), list(2, 2), Below},
		{list(2, 2), list(1, 1), Above},
		{list(2, 0, 0), list(1), Above},
		{list(1), list(0, 1), Apart},
		{list(0, 1), list(1), Apart},
		{list(1, 2), list(2, 1), Apart},
		{list(1, 1, 2), list(1, 1, 1, 1), Apart},
		{last(1), list(1), Apart},
		{last(1), last(2), Below},
		{full(64, api.MaxCount), full(64, api.MaxCount), Same},
		{full(64, api.MaxCount), nil, Above},
		{list(api.MaxCount - 1), list(api.MaxCount), Below},
	} {
		if got, e := Compare(x.a, x.b); got != x.want || e != api.OK {
			t.Errorf("Compare(%v, %v): %d %d", x.a, x.b, got, e)
		}
	}
}

func TestTheNamesOfCompare(t *testing.T) {
	if Same != 0 || Below != 1 || Above != 2 || Apart != 3 {
		t.Errorf("%d %d %d %d", Same, Below, Above, Apart)
	}
}

// What two clocks come to, told by the greater one of them.
func TestCompareIsAsMergeIs(t *testing.T) {
	for _, a := range smallClocks() {
		for _, b := range smallClocks() {
			isA, isB := slices.Equal(greater(a, b), greater(a, nil)), slices.Equal(greater(a, b), greater(b, nil))
			want := Apart
			switch {
			case isA && isB:
				want = Same
			case isA:
				want = Above
			case isB:
				want = Below
			}
			if got, e := Compare(a, b); got != want || e != api.OK {
				t.Errorf("Compare(%v, %v): %d %d", a, b, got, e)
			}
		}
	}
}

// P2.2, P2.4: which error is told of two lists, and that nothing stands beside it.

func TestErrorsOfTwoLists(t *testing.T) {
	look := func(a, b []int, want api.Errno) {
		t.Helper()
		if got, e := Merge(a, b); got != nil || e != want {
			t.Errorf("Merge(%v, %v): %v %d", a, b, got, e)
		}
		if got, e := Compare(a, b); got != 0 || e != want {
			t.Errorf("Compare(%v, %v): %d %d", a, b, got, e)
		}
		if got, e := Gaps(a, b); got != nil || e != want {
			t.Errorf("Gaps(%v, %v): %v %d", a, b, got, e)
		}
		seq := Each(a, b)
		if seq == nil {
			t.Fatalf("Each(%v, %v) is nil", a, b)
		}
		for s := range seq {
			t.Errorf("Each(%v, %v): %v", a, b, s)
		}
	}
	for _, x := range wrongLists {
		for _, c := range someClocks() {
			look(x.c, c, x.e)
			look(c, x.c, x.e)
		}
		for _, y := range wrongLists {
			look(x.c, y.c, x.e)
		}
	}
}

// P2.3

func TestTick(t *testing.T) {
	for _, x := range []struct {
		c    []int
		r    int
		want []int
		e    api.Errno
	}{
		{list(1), 2, list(1, 0, 1), api.OK},
		{nil, 0, list(1), api.OK},
		{nil, 63, last(1), api.OK},
		{list(1, 2, 3), 0, list(2, 2, 3), api.OK},
		{list(1, 2, 3), 1, list(1, 3, 3), api.OK},
		{list(1, 2, 3), 2, list(1, 2, 4), api.OK},
		{list(1, 2, 3), 3, list(1, 2, 3, 1), api.OK},
		{list(1, 0, 0, 0), 1, list(1, 1), api.OK},
		{make([]int, 64), 0, list(1), api.OK},
		{last(1), 63, last(2), api.OK},
		{list(api.MaxCount - 1), 0, list(api.MaxCount), api.OK},
		{list(api.MaxCount), 1, list(api.MaxCount, 1), api.OK},
		{list(api.MaxCount), 0, nil, api.ErrFull},
		{list(1, api.MaxCount, 0), 1, nil, api.ErrFull},
		{last(api.MaxCount), 63, nil, api.ErrFull},
		{list(1), -1, nil, api.ErrRange},
		{list(1), 64, nil, api.ErrRange},
		{nil, 64, nil, api.ErrRange},
		{list(1), math.MinInt, nil, api.ErrRange},
		{list(1), math.MaxInt, nil, api.ErrRange},
		{full(64, api.MaxCount), 64, nil, api.ErrRange},
		{full(64, api.MaxCount), -1, nil, api.ErrRange},
	} {
		if got, e := Tick(x.c, x.r); e != x.e || !slices.Equal(got, x.want) {
			t.Errorf("Tick(%v, %d): %v %d", x.c, x.r, got, e)
		}
	}
}

func TestTickOfWrongLists(t *testing.T) {
	for _, x := range wrongLists {
		for _, r := range []int{math.MinInt, -1, 0, 1, 63, 64, math.MaxInt} {
			if got, e := Tick(x.c, r); got != nil || e != x.e {
				t.Errorf("Tick(%v, %d): %v %d", x.c, r, got, e)
			}
		}
	}
	// A number that can not rise, and another one that is wrong: the list's error is ahead.
	if _, e := Tick(list(api.MaxCount, -1), 0); e != api.ErrRange {
		t.Errorf("%d", e)
	}
}

func TestTickIsJustAbove(t *testing.T) {
	for _, c := range smallClocks() {
		for r := range api.MaxReplicas {
			got, e := Tick(c, r)
			if e != api.OK || At(got, r) != At(c, r)+1 {
				t.Fatalf("Tick(%v, %d): %v %d", c, r, got, e)
			}
			gap, e := Gaps(got, c)
			if e != api.OK || !slices.Equal(gap, []api.Span{span(r, At(got, r), At(got, r))}) {
				t.Errorf("Tick(%v, %d): %v %d", c, r, gap, e)
			}
			if n, _ := Compare(c, got); n != Below {
				t.Errorf("Tick(%v, %d): %d", c, r, n)
			}
		}
	}
}

// P2.4

func TestGaps(t *testing.T) {
	for _, x := range []struct {
		a, b []int
		want []api.Span
	}{
		{list(3, 1), list(1), []api.Span{span(0, 2, 3), span(1, 1, 1)}},
		{list(1), list(3, 1), nil},
		{nil, nil, nil},
		{list(0, 0), list(0), nil},
		{nil, list(5), nil},
		{list(5), nil, []api.Span{span(0, 1, 5)}},
		{list(5, 0), list(5, 0, 0), nil},
		{list(5), list(4), []api.Span{span(0, 5, 5)}},
		{list(5), list(3), []api.Span{span(0, 4, 5)}},
		{list(0, 0, 2, 0), list(9), []api.Span{span(2, 1, 2)}},
		{list(1, 5, 1, 5), list(5, 1, 5, 1), []api.Span{span(1, 2, 5), span(3, 2, 5)}},
		{last(api.MaxCount), nil, []api.Span{span(63, 1, api.MaxCount)}},
		{last(api.MaxCount), last(api.MaxCount - 1), []api.Span{span(63, api.MaxCount, api.MaxCount)}},
	} {
		if got, e := Gaps(x.a, x.b); e != api.OK || !slices.Equal(got, x.want) {
			t.Errorf("Gaps(%v, %v): %v %d", x.a, x.b, got, e)
		}
	}
}

func TestGapsOfEveryReplica(t *testing.T) {
	got, e := Gaps(full(64, 4), full(64, 2))
	if e != api.OK || len(got) != api.MaxReplicas {
		t.Fatalf("%v %d", got, e)
	}
	for r, s := range got {
		if s != span(r, 3, 4) {
			t.Errorf("%d: %v", r, s)
		}
	}
}

func TestEachIsGaps(t *testing.T) {
	all := append(smallClocks(), someClocks()...)
	for _, a := range all {
		for _, b := range all {
			want, _ := Gaps(a, b)
			if got := slices.Collect(Each(a, b)); !slices.Equal(got, want) {
				t.Errorf("Each(%v, %v): %v", a, b, got)
			}
		}
	}
}

func TestEachIsAsAtTheCall(t *testing.T) {
	a, b := list(3, 1, 7), list(1)
	seq := Each(a, b)
	a[0], a[1], a[2], b[0] = 9, 0, -1, 8
	want := []api.Span{span(0, 2, 3), span(1, 1, 1), span(2, 1, 7)}
	for range 2 {
		if got := slices.Collect(seq); !slices.Equal(got, want) {
			t.Errorf("%v", got)
		}
	}
	bad := list(-1)
	seq = Each(bad, nil)
	bad[0] = 5
	if got := slices.Collect(seq); len(got) != 0 {
		t.Errorf("mended behind the call: %v", got)
	}
}

func TestEachIsNotChangedOnTheWay(t *testing.T) {
	a, b := list(3, 3, 3), list(1, 1, 1)
	var got []api.Span
	for s := range Each(a, b) {
		got = append(got, s)
		clear(a)
		b[0], b[1], b[2] = 9, 9, 9
	}
	if !slices.Equal(got, []api.Span{span(0, 2, 3), span(1, 2, 3), span(2, 2, 3)}) {
		t.Errorf("%v", got)
	}
}

func TestEachIsLeftAndGoneOverAgain(t *testing.T) {
	seq := Each(full(64, 4), last(2))
	all := slices.Collect(seq)
	for most := 1; most <= len(all); most++ {
		var got []api.Span
		for s := range seq {
			got = append(got, s)
			if len(got) == most {
				break
			}
		}
		if !slices.Equal(got, all[:most]) {
			t.Fatalf("left behind %d: %v", most, got)
		}
	}
	if again := slices.Collect(seq); !slices.Equal(again, all) || len(all) != 64 {
		t.Errorf("again: %v", again)
	}
}

func TestEachWithinItself(t *testing.T) {
	seq := Each(list(1, 2, 3), nil)
	n := 0
	for a := range seq {
		for b := range seq {
			n += a.To * b.To
		}
	}
	if n != 36 {
		t.Errorf("%d", n)
	}
}

func TestEachIsNeverNil(t *testing.T) {
	for _, seq := range []iter.Seq[api.Span]{Each(nil, nil), Each(list(1), list(1)), Each(list(1), nil), Each(list(-1), nil), Each(nil, make([]int, 65))} {
		if seq == nil {
			t.Error("nil")
		}
	}
}

// P2.5

func TestText(t *testing.T) {
	for _, x := range []struct {
		c    []int
		want string
	}{
		{list(0, 4, 0), "0,4"},
		{nil, "-"},
		{list(), "-"},
		{list(0), "-"},
		{make([]int, 64), "-"},
		{list(1), "1"},
		{list(1, 0), "1"},
		{list(1, 0, 3), "1,0,3"},
		{list(10, 200, 3000), "10,200,3000"},
		{list(api.MaxCount), "1099511627776"},
		{last(1), strings.Repeat("0,", 63) + "1"},
		{full(64, api.MaxCount), strings.Repeat("1099511627776,", 63) + "1099511627776"},
	} {
		if got, e := Text(x.c); got != x.want || e != api.OK {
			t.Errorf("Text(%v): %q %d", x.c, got, e)
		}
	}
	for _, x := range wrongLists {
		if got, e := Text(x.c); got != "" || e != x.e {
			t.Errorf("Text(%v): %q %d", x.c, got, e)
		}
	}
}

func TestParse(t *testing.T) {
	for _, x := range []struct {
		s    string
		want []int
	}{
		{"-", nil},
		{"1", list(1)},
		{"0,4", list(0, 4)},
		{"1,0,3", list(1, 0, 3)},
		{"0,0,1", list(0, 0, 1)},
		{"10,200,3000", list(10, 200, 3000)},
		{"1099511627776", list(api.MaxCount)},
		{strings.Repeat("0,", 63) + "1", last(1)},
		{strings.Repeat("1099511627776,", 63) + "1099511627776", full(64, api.MaxCount)},
	} {
		if got, e := Parse(x.s); e != api.OK || !slices.Equal(got, x.want) {
			t.Errorf("Parse(%q): %v %d", x.s, got, e)
		}
	}
}

func TestParseRefuses(t *testing.T) {
	for _, s := range []string{
		"", ",", ",,", "1,", ",1", "1,,1", "1,1,", ",1,1",
		"0", "0,0", "1,0", "0,4,0", "1,0,0",
		"01", "00", "1,01", "1,00,1", "00,1", "01099511627776",
		"--", "-,", ",-", "-,1", "1,-", "-,-", "-1", "1,-1", "-1,1", "-0", "-0,1", "1,-0", "- ", " -",
		"+1", "+0,1", "1,+1", " 1", "1 ", "1, 1", "1 ,1", "1\n", "\t1", "1\x00", "1,1\n",
		"1;1", "1.1", "1 1", "[1]", "1-1",
		"1099511627777", "1,1099511627777", "1099511627777,1", "9223372036854775807", "9223372036854775808", "18446744073709551617", "1,18446744073709551617",
		strings.Repeat("0,", 64) + "1", strings.Repeat("1,", 64) + "1", strings.Repeat("0,", 64), strings.Repeat("1,", 63), strings.Repeat("1,", 64), strings.Repeat("1,", 64) + "0", strings.Repeat("0,", 63) + "0",
		strings.Repeat("1,", 100000) + "1", strings.Repeat(",", 100000), strings.Repeat("9", 100000), strings.Repeat("0", 100000) + "1",
		"0x1", "1_0", "1e3", "a", "1,a", "none", "\u0661", "\uff11", "1\uff0c1", "\u2212", "\u2010", "\xff", "1,\xff",
	} {
		if got, e := Parse(s); got != nil || e != api.ErrForm {
			t.Errorf("Parse(%.40q): %v %d", s, got, e)
		}
	}
}

// Whatever short text there is: it is read just if some trimmed clock is written so.
func TestParseReadsJustTexts(t *testing.T) {
	const signs, longest = "012,-+ ", 6
	form := regexp.MustCompile(`^(-|((0|[1-9][0-9]*),)*[1-9][0-9]*)$`)
	texts := []string{""}
	for i := 0; i < len(texts); i++ {
		s := texts[i]
		got, e := Parse(s)
		if form.MatchString(s) != (e == api.OK) || e != api.OK && (e != api.ErrForm || got != nil) {
			t.Errorf("Parse(%q): %v %d", s, got, e)
		}
		if back, _ := Text(got); e == api.OK && back != s {
			t.Errorf("Parse(%q): %v", s, got)
		}
		if len(s) == longest {
			continue
		}
		for _, sign := range signs {
			texts = append(texts, s+string(sign))
		}
	}
}

// P2.6

func TestMergeIsTheLeast(t *testing.T) {
	all := smallClocks()
	for _, a := range all {
		for _, b := range all {
			m, e := Merge(a, b)
			if e != api.OK || !slices.Equal(m, Trim(m)) {
				t.Fatalf("Merge(%v, %v): %v %d", a, b, m, e)
			}
			if !notAbove(a, m) || !notAbove(b, m) {
				t.Fatalf("Merge(%v, %v): %v is not above both", a, b, m)
			}
			for _, c := range all {
				if notAbove(a, c) && notAbove(b, c) && !notAbove(m, c) {
					t.Fatalf("Merge(%v, %v): %v is less than %v", a, b, c, m)
				}
			}
		}
	}
}

func notAbove(a, b []int) bool {
	n, e := Compare(a, b)
	return e == api.OK && (n == Same || n == Below)
}

func TestTheOrderOfMergesSaysNothing(t *testing.T) {
	all := append(smallClocks(), last(3), full(64, api.MaxCount), list(api.MaxCount))
	for _, a := range all {
		for _, b := range all {
			ab := merged(t, a, b)
			if ba := merged(t, b, a); !slices.Equal(ab, ba) {
				t.Fatalf("%v, %v: %v %v", a, b, ab, ba)
			}
			for _, c := range all {
				if x, y := merged(t, ab, c), merged(t, a, merged(t, b, c)); !slices.Equal(x, y) {
					t.Fatalf("%v, %v, %v: %v %v", a, b, c, x, y)
				}
			}
		}
	}
}

func merged(t *testing.T, a, b []int) []int {
	m, e := Merge(a, b)
	if e != api.OK {
		t.Fatalf("Merge(%v, %v): %d", a, b, e)
	}
	return m
}

// P2.7

func TestGapsFilledAreTheMerge(t *testing.T) {
	for _, a := range smallClocks() {
		for _, b := range smallClocks() {
			filled, was := b, -1
			for s := range Each(a, b) {
				if s.Replica <= was || s.From != At(b, s.Replica)+1 || s.To != At(a, s.Replica) || s.From > s.To {
					t.Fatalf("Each(%v, %v): %v behind %d", a, b, s, was)
				}
				was = s.Replica
				for range s.To - s.From + 1 {
					filled = ticked(t, filled, s.Replica)
				}
			}
			if m := merged(t, a, b); !slices.Equal(Trim(filled), m) {
				t.Fatalf("%v, %v: %v, not %v", a, b, filled, m)
			}
		}
	}
}

func ticked(t *testing.T, c []int, r int) []int {
	out, e := Tick(c, r)
	if e != api.OK {
		t.Fatalf("Tick(%v, %d): %d", c, r, e)
	}
	return out
}

func TestParseOfText(t *testing.T) {
	for _, c := range append(smallClocks(), someClocks()...) {
		text, e := Text(c)
		got, f := Parse(text)
		if e != api.OK || f != api.OK || !slices.Equal(got, Trim(c)) {
			t.Errorf("%v: %q %d, %v %d", c, text, e, got, f)
		}
	}
}

func FuzzTextOfParse(f *testing.F) {
	for _, s := range []string{"", "-", "1", "0", "0,4", "0,4,0", "01", "1,", ",1", "-1", "+1", "1099511627776", "1099511627777", strings.Repeat("0,", 63) + "1", strings.Repeat("0,", 64) + "1"} {
		f.Add(s)
	}
	f.Fuzz(func(t *testing.T, s string) {
		got, e := Parse(s)
		if e != api.OK {
			if e != api.ErrForm || got != nil {
				t.Errorf("Parse(%q): %v %d", s, got, e)
			}
			return
		}
		if back, e := Text(got); e != api.OK || back != s || !slices.Equal(got, Trim(got)) {
			t.Errorf("%q: %v, %q %d", s, got, back, e)
		}
	})
}

// Rule 3: what is handed in, and the room behind it, is left as it is; what is answered is new.

func TestWhatIsHandedInIsLeft(t *testing.T) {
	roomA, roomB := list(3, 0, 2, 0, 91, 92, 93), list(1, 5, 94, 95, 96)
	wasA, wasB := slices.Clone(roomA), slices.Clone(roomB)
	a, b := roomA[:4], roomB[:2]
	look := func(what string) {
		t.Helper()
		if !slices.Equal(roomA, wasA) || !slices.Equal(roomB, wasB) {
			t.Fatalf("%s: %v %v", what, roomA, roomB)
		}
	}
	spoil := func(what string, l []int) {
		t.Helper()
		for i := range l {
			l[i] = 77
		}
		_ = append(l, 78, 79)
		look(what)
	}
	spoil("Trim of a", Trim(a))
	spoil("Trim of a trimmed one", Trim(b))
	spoil("Trim to nothing", Trim(roomA[1:2]))
	spoil("Merge", merged(t, a, b))
	spoil("Merge with none", merged(t, b, nil))
	spoil("Merge of none with it", merged(t, nil, b))
	spoil("Merge with itself", merged(t, b, b))
	spoil("Tick within", ticked(t, a, 1))
	spoil("Tick of the last", ticked(t, b, 1))
	spoil("Tick behind the end", ticked(t, b, 2))
	Check(a)
	At(a, 4)
	Compare(a, b)
	Gaps(a, b)
	for range Each(a, b) {
	}
	Text(a)
	look("the others")
}

func TestTwoAnswersShareNothing(t *testing.T) {
	c := list(1, 2)
	first, second := Trim(c), Trim(c)
	first[0] = 9
	_ = append(first, 9)
	if !slices.Equal(second, c) {
		t.Errorf("Trim: %v", second)
	}
	one, _ := Parse("1,2")
	other, _ := Parse("1,2")
	one[0] = 9
	if !slices.Equal(other, c) {
		t.Errorf("Parse: %v", other)
	}
	gap, _ := Gaps(c, nil)
	again, _ := Gaps(c, nil)
	gap[0] = span(9, 9, 9)
	if again[0] != span(0, 1, 1) {
		t.Errorf("Gaps: %v", again)
	}
}
