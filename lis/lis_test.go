package lis

import (
	"cmp"
	"math"
	"math/rand"
	"slices"
	"testing"
)

// plainIs asks what the chapter's words ask, of each two places.
func plainIs(l, places []int) bool {
	for i, p := range places {
		if p < 0 || p >= len(l) {
			return false
		}
		for _, q := range places[:i] {
			if q >= p || l[q] >= l[p] {
				return false
			}
		}
	}
	return true
}

// subsets tells all lists of rising places below n.
func subsets(n int) [][]int {
	out := [][]int{nil}
	for p := range n {
		for _, s := range out {
			out = append(out, append(slices.Clone(s), p))
		}
	}
	return out
}

// isBetter tells whether a is longer than b, or as long and the first of the two.
func isBetter(a, b []int) bool {
	if len(a) != len(b) {
		return len(a) > len(b)
	}
	return slices.Compare(a, b) < 0
}

// bestOf holds all the lists of places against each other, and so needs short ones.
func bestOf(l []int, all [][]int) []int {
	var best []int
	for _, s := range all {
		if plainIs(l, s) && isBetter(s, best) {
			best = s
		}
	}
	return best
}

// plainRising has of each place the best part that begins there, made of those behind it.
func plainRising(l []int) []int {
	from := make([][]int, len(l))
	var best []int
	for at := len(l) - 1; at >= 0; at-- {
		var rest []int
		for next := at + 1; next < len(l); next++ {
			if l[next] > l[at] && isBetter(from[next], rest) {
				rest = from[next]
			}
		}
		from[at] = append([]int{at}, rest...)
		if isBetter(from[at], best) {
			best = from[at]
		}
	}
	return best
}

func without(n int, part []int) []int {
	var out []int
	for p := range n {
		if !slices.Contains(part, p) {
			out = append(out, p)
		}
	}
	return out
}

// wantPart asks all calls of l, of which part is to be the longest rising part.
func wantPart(t testing.TB, l, part []int) {
	t.Helper()
	if got := Rising(l); !slices.Equal(got, part) {
		t.Fatalf("Rising(%v): %v, want %v", l, got, part)
	}
	if got := Long(l); got != len(part) {
		t.Fatalf("Long(%v): %d, want %d", l, got, len(part))
	}
	if got, want := Others(l), without(len(l), part); !slices.Equal(got, want) {
		t.Fatalf("Others(%v): %v, want %v", l, got, want)
	}
	if !Is(l, part) {
		t.Fatalf("Is(%v, %v): false", l, part)
	}
}

// everyList tells all lists of n numbers from low on, so many kinds of them.
func everyList(n, low, kinds int) [][]int {
	out := [][]int{nil}
	for range n {
		var longer [][]int
		for _, l := range out {
			for k := range kinds {
				longer = append(longer, append(slices.Clone(l), low+k))
			}
		}
		out = longer
	}
	return out
}

func anyList(p *rand.Rand, n, kinds int) []int {
	l := make([]int, n)
	for i := range l {
		l[i] = p.Intn(kinds) - kinds/2
	}
	return l
}

func upTo(n int) []int {
	l := make([]int, n)
	for i := range l {
		l[i] = i
	}
	return l
}

// P16.2, the chapter's examples.
func TestExamples(t *testing.T) {
	l := []int{3, 1, 2, 5, 4}
	wantPart(t, l, []int{1, 2, 3})
	if got := Others(l); !slices.Equal(got, []int{0, 4}) {
		t.Errorf("Others: %v", got)
	}
	wantPart(t, []int{2, 2}, []int{0})
	if !Is(l, []int{1, 2, 4}) {
		t.Error("the part 1 2 4, as long and behind it, is none")
	}
}

// P16.1.
func TestIs(t *testing.T) {
	l := []int{1, 0, 2, 2, -3, 7}
	for _, x := range []struct {
		places []int
		want   bool
	}{
		{nil, true},
		{[]int{}, true},
		{[]int{0}, true},
		{[]int{5}, true},
		{[]int{0, 2}, true},
		{[]int{1, 3, 5}, true},
		{[]int{4, 5}, true},
		{[]int{0, 1}, false},        // the numbers fall
		{[]int{2, 3}, false},        // they are the same
		{[]int{0, 0}, false},        // one place twice
		{[]int{2, 0}, false},        // the places fall
		{[]int{2, 1}, false},        // and the numbers, too
		{[]int{1, 0}, false},        // the numbers rise, the places fall
		{[]int{4, 2}, false},        // likewise
		{[]int{1, 2, 3}, false},     // the last two are the same
		{[]int{1, 2, 1}, false},     // the last one falls back
		{[]int{0, 2, 4}, false},     // each two but the last two rise
		{[]int{-1}, false},          // no place
		{[]int{6}, false},           // nor this
		{[]int{-1, 0}, false},       // the first one is none
		{[]int{0, 6}, false},        // the last one is none
		{[]int{0, 2, 5, 6}, false},  // likewise
		{[]int{6, 0}, false},        // likewise the first one
		{[]int{math.MinInt}, false}, // far off
		{[]int{math.MaxInt}, false}, // likewise
		{[]int{0, math.MaxInt}, false},
		{[]int{math.MinInt, 0}, false},
		{[]int{0, 2, 5, 0, 2, 5, 0, 2}, false}, // more places than there are
	} {
		if got := Is(l, x.places); got != x.want {
			t.Errorf("Is(%v, %v): %v", l, x.places, got)
		}
	}
}

func TestIsOfNoNumbers(t *testing.T) {
	for _, l := range [][]int{nil, {}} {
		if !Is(l, nil) || !Is(l, []int{}) {
			t.Error("of none: no")
		}
		for _, p := range []int{0, 1, -1, math.MinInt, math.MaxInt} {
			if Is(l, []int{p}) {
				t.Errorf("the place %d of none: yes", p)
			}
		}
	}
}

// What lies behind the list's end is no place of it.
func TestIsKeepsToTheList(t *testing.T) {
	l := []int{1, 2, 3}[:2]
	if Is(l, []int{0, 2}) || Is(l, []int{2}) {
		t.Error("a place behind the end")
	}
	if places := []int{0, 1, 0}[:2]; !Is(l, places) {
		t.Error("what lies behind the places' end is asked")
	}
}

func TestIsOfAllPlaces(t *testing.T) {
	for n := range 4 {
		for _, l := range everyList(n, -1, 3) {
			for m := range 4 {
				for _, places := range everyList(m, -1, n+2) {
					if got, want := Is(l, places), plainIs(l, places); got != want {
						t.Fatalf("Is(%v, %v): %v, want %v", l, places, got, want)
					}
				}
			}
		}
	}
}

// P16.2 and P16.3: against all other parts of each short list.
func TestAllShortLists(t *testing.T) {
	for n := range 7 {
		all := subsets(n)
		for _, l := range everyList(n, 0, n) {
			wantPart(t, l, bestOf(l, all))
		}
	}
}

// P16.2: of several that are as long the first one, by its places.
func TestTheFirstOfSeveral(t *testing.T) {
	for _, x := range []struct{ l, want []int }{
		{[]int{5, 1}, []int{0}},
		{[]int{1, 1, 1}, []int{0}},
		{[]int{5, 6, 1, 2}, []int{0, 1}},       // though greater
		{[]int{1, 9, 5}, []int{0, 1}},          // though 5 leaves more room
		{[]int{1, 2, 2, 3}, []int{0, 1, 3}},    // the first of the same
		{[]int{2, 1, 3, 2}, []int{0, 2}},       // its first place counts first
		{[]int{3, 1, 2, 5, 4}, []int{1, 2, 3}}, // a shorter one ahead does not count
		{[]int{9, 1, 8, 2, 7, 3}, []int{1, 3, 4}},
		{[]int{1, 5, 2, 6, 3}, []int{0, 1, 3}},
		{[]int{0, 8, 4, 12, 2, 10, 6, 14}, []int{0, 1, 3, 7}},
		{[]int{4, 5, 1, 2, 9, 3}, []int{0, 1, 4}},
		{[]int{4, 5, 1, 2, 3, 0}, []int{2, 3, 4}},
	} {
		wantPart(t, x.l, x.want)
	}
}

func TestNoNumbers(t *testing.T) {
	wantPart(t, nil, nil)
	wantPart(t, []int{}, nil)
}

// P16.4.
func TestListsThatRise(t *testing.T) {
	p := rand.New(rand.NewSource(1))
	for n := range 40 {
		wantPart(t, upTo(n), upTo(n))
		l := make([]int, n)
		at := math.MinInt
		for i := range l {
			l[i] = at
			at += 1 + p.Intn(math.MaxInt/40)
		}
		wantPart(t, l, upTo(n))
	}
	wantPart(t, []int{math.MinInt, -1, 0, 1, math.MaxInt}, upTo(5))
	wantPart(t, []int{math.MaxInt - 1, math.MaxInt}, upTo(2))
	wantPart(t, []int{math.MinInt, math.MinInt + 1}, upTo(2))
}

// P16.4.
func TestListsThatNeverRise(t *testing.T) {
	p := rand.New(rand.NewSource(2))
	for n := 1; n < 40; n++ {
		l := make([]int, n)
		wantPart(t, l, []int{0})
		for i := range l {
			l[i] = -i
		}
		wantPart(t, l, []int{0})
		l = anyList(p, n, 10)
		slices.SortFunc(l, func(a, b int) int { return cmp.Compare(b, a) })
		wantPart(t, l, []int{0})
	}
	for _, n := range []int{0, 1, -1, math.MinInt, math.MaxInt} {
		wantPart(t, []int{n}, []int{0})
		wantPart(t, []int{n, n}, []int{0})
	}
	wantPart(t, []int{math.MaxInt, 1, 0, -1, math.MinInt}, []int{0})
}

// P16.4: just the order of the numbers counts, in the types' whole range.
func TestNumbersInTheSameOrder(t *testing.T) {
	p := rand.New(rand.NewSource(3))
	for range 300 {
		kinds := 1 + p.Intn(12)
		l := anyList(p, p.Intn(30), kinds)
		want := plainRising(l)
		for _, numbers := range [][]int{edges(kinds), spread(p, kinds)} {
			other := make([]int, len(l))
			for i, n := range l {
				other[i] = numbers[n+kinds/2]
			}
			wantPart(t, other, want)
		}
	}
}

// edges tells n rising numbers, half of them as low as there are, half as high.
func edges(n int) []int {
	l := make([]int, n)
	for i := range l {
		l[i] = math.MinInt + i
		if i >= n/2 {
			l[i] = math.MaxInt - (n - 1 - i)
		}
	}
	return l
}

// spread tells n rising numbers out of all that there are.
func spread(p *rand.Rand, n int) []int {
	var l []int
	for len(l) < n {
		l = append(l, int(p.Uint64()))
		slices.Sort(l)
		l = slices.Compact(l)
	}
	return l
}

// P16.2 and P16.3.
func TestManyListsAreAsTheModel(t *testing.T) {
	p := rand.New(rand.NewSource(4))
	for range 3000 {
		l := anyList(p, p.Intn(60), 1+p.Intn(80))
		wantPart(t, l, plainRising(l))
	}
	for range 1000 {
		l := p.Perm(p.Intn(60))
		wantPart(t, l, plainRising(l))
	}
}

// P16.3: siblings of which a few were put elsewhere: no more than those are others.
func TestFewThatWereShifted(t *testing.T) {
	p := rand.New(rand.NewSource(5))
	for range 500 {
		l, shifts := upTo(1+p.Intn(50)), p.Intn(6)
		for range shifts {
			from := p.Intn(len(l))
			n := l[from]
			l = slices.Delete(l, from, from+1)
			l = slices.Insert(l, p.Intn(len(l)+1), n)
		}
		wantPart(t, l, plainRising(l))
		if got := len(Others(l)); got > shifts {
			t.Fatalf("%v: %d others by %d shifts", l, got, shifts)
		}
	}
}

func TestNothingHandedInIsChanged(t *testing.T) {
	p := rand.New(rand.NewSource(6))
	for range 200 {
		whole := anyList(p, 20+p.Intn(20), 1+p.Intn(30))
		was := slices.Clone(whole)
		l := whole[5 : 5+p.Intn(10)]
		want := plainRising(slices.Clone(l))
		wantPart(t, l, want)
		if !slices.Equal(whole, was) {
			t.Fatalf("%v became %v", was, whole)
		}
		places := append(slices.Clone(want), 7, 8, 9)
		Is(l, places[:len(want)])
		if !slices.Equal(places, append(want, 7, 8, 9)) {
			t.Fatalf("the places %v became %v", want, places)
		}
	}
}

func TestAnswersAreNewMemory(t *testing.T) {
	for _, l := range [][]int{{3, 1, 2, 5, 4}, {0, 1, 2, 3}, {3, 2, 1, 0}, {1, 1}} {
		was := slices.Clone(l)
		part, others := Rising(l), Others(l)
		wantedPart, wantedOthers := slices.Clone(part), slices.Clone(others)
		for _, a := range [][]int{Rising(l), Others(l)} {
			a = a[:cap(a)]
			for i := range a {
				a[i] = -9
			}
		}
		if !slices.Equal(l, was) {
			t.Fatalf("%v became %v by what was done to an answer", was, l)
		}
		for i := range l {
			l[i] = -i
		}
		if !slices.Equal(part, wantedPart) || !slices.Equal(others, wantedOthers) {
			t.Errorf("of %v: %v %v by what was done to other lists", was, part, others)
		}
	}
}

// wantCut asks that the parts of a long list are a rising part of that length, and the rest.
func wantCut(t *testing.T, l []int, long int) []int {
	t.Helper()
	part, others := Rising(l), Others(l)
	if len(part) != long || Long(l) != long || !Is(l, part) {
		t.Fatalf("%d places, Long %d, want %d; a rising part: %v", len(part), Long(l), long, Is(l, part))
	}
	if !slices.IsSorted(others) {
		t.Fatal("the others do not rise")
	}
	all := append(slices.Clone(part), others...)
	slices.Sort(all)
	if !slices.Equal(all, upTo(len(l))) {
		t.Fatal("part and others are not all places")
	}
	return part
}

// So long that whoever held each two numbers against each other would not end here.
func TestLongLists(t *testing.T) {
	const n, high = 1 << 20, 1 << 5
	l := upTo(n)
	wantCut(t, l, n)
	slices.Reverse(l)
	if part := wantCut(t, l, 1); part[0] != 0 {
		t.Errorf("falling: %v", part)
	}
	for i := range l { // falling steps of a rising stair: the first one of each step
		l[i] = i - 2*(i%high)
	}
	for k, at := range wantCut(t, l, n/high) {
		if at != k*high {
			t.Fatalf("stair: place %d is %d", k, at)
		}
	}
	for i := range l { // rising steps of a falling stair: the first step
		l[i] = i%high - i/high*high
	}
	if part := wantCut(t, l, high); !slices.Equal(part, upTo(high)) {
		t.Errorf("falling stair: %v", part)
	}
	l = rand.New(rand.NewSource(7)).Perm(n)
	wantCut(t, l, Long(l))
}

func FuzzAnyList(f *testing.F) {
	f.Add([]byte{3, 1, 2, 5, 4}, []byte{1, 2, 3})
	f.Add([]byte{2, 2}, []byte{0, 1})
	f.Add([]byte{0, 8, 4, 12, 2, 10, 6, 14}, []byte{0, 1, 3, 7, 255})
	f.Fuzz(func(t *testing.T, numbers, at []byte) {
		if len(numbers) > 120 {
			return
		}
		var l, places []int
		for _, b := range numbers {
			l = append(l, int(int8(b)))
		}
		for _, b := range at {
			places = append(places, int(int8(b)))
		}
		wantPart(t, l, plainRising(l))
		if got, want := Is(l, places), plainIs(l, places); got != want {
			t.Fatalf("Is(%v, %v): %v, want %v", l, places, got, want)
		}
	})
}
