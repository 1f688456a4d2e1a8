package causal

import (
	"math"
	"math/rand"
	"runtime"
	"slices"
	"strconv"
	"strings"
	"testing"

	"topiary/api"
	"topiary/change"
	"topiary/clock"
	"topiary/oplog"
)

func mustParse(t testing.TB, text string) api.Change {
	t.Helper()
	c, e := change.Parse(text)
	if e != api.OK {
		t.Fatalf("%s: %d", text, e)
	}
	return c
}

func mustParseAll(t testing.TB, texts ...string) []api.Change {
	t.Helper()
	var out []api.Change
	for _, text := range texts {
		out = append(out, mustParse(t, text))
	}
	return out
}

func mustNew(t testing.TB, room int) *Buffer {
	t.Helper()
	b, e := New(room)
	if e != api.OK || b == nil {
		t.Fatalf("New(%d): %v %d", room, b, e)
	}
	return b
}

// holding is a buffer that holds these, none of which may be ready with a clock without numbers.
func holding(t testing.TB, room int, texts ...string) *Buffer {
	t.Helper()
	b := mustNew(t, room)
	for _, c := range mustParseAll(t, texts...) {
		mustHold(t, b, nil, c)
	}
	return b
}

func mustHold(t testing.TB, b *Buffer, known []int, c api.Change) {
	t.Helper()
	before := b.Len()
	if l, e := b.Take(known, c); e != api.OK || len(l) != 0 || b.Len() != before+1 {
		t.Fatalf("Take(%v, %s): %s %d, and %d held, want it held", known, textOf(c), textsOf(l), e, b.Len())
	}
}

func textOf(c api.Change) string {
	text, e := change.Text(c)
	if e != api.OK {
		return "wrong change, error " + strconv.Itoa(int(e))
	}
	return text
}

func textsOf(l []api.Change) string {
	var out []string
	for _, c := range l {
		out = append(out, textOf(c))
	}
	return strings.Join(out, "\n")
}

func wantTexts(t testing.TB, what string, got []api.Change, want ...string) {
	t.Helper()
	if text := textsOf(got); text != strings.Join(want, "\n") {
		t.Errorf("%s:\n%s\nwant:\n%s", what, text, strings.Join(want, "\n"))
	}
}

func wantHeld(t testing.TB, b *Buffer, want ...string) {
	t.Helper()
	wantTexts(t, "held", b.Held(), want...)
	if b.Len() != len(want) {
		t.Errorf("Len: %d, want %d", b.Len(), len(want))
	}
}

// wantRefused asks for an error, nothing beside it, and a buffer that is as it was.
func wantRefused(t testing.TB, b *Buffer, known []int, c api.Change, want api.Errno) {
	t.Helper()
	before, room := textsOf(b.Held()), b.Room()
	l, e := b.Take(known, c)
	if e != want || len(l) != 0 {
		t.Errorf("Take(%v, %s): %s %d, want %d", known, textOf(c), textsOf(l), e, want)
	}
	if after := textsOf(b.Held()); after != before || b.Room() != room {
		t.Errorf("Take(%v, %s) was refused, but held is\n%s\nand was\n%s", known, textOf(c), after, before)
	}
}

const (
	createText = `create 1.0 1 - root - p`
	firstText  = `text 2.1 1 1 1.0 "a"`
	secondText = `text 4.1 2 1,1 1.0 "b"`
)

// ones is a clock of so many replicas, one change of each known.
func ones(n int) []int {
	out := make([]int, n)
	for i := range out {
		out[i] = 1
	}
	return out
}

// wrongClocks are clocks that are not right, each with its error.
func wrongClocks() map[api.Errno][][]int {
	return map[api.Errno][][]int{
		api.ErrRange: {{-1}, {math.MinInt}, {0, api.MaxCount + 1}, {1, math.MaxInt}, append(ones(63), -1)},
		api.ErrLong:  {make([]int, 65), ones(66), append(ones(64), -1)},
	}
}

// wrongChanges are changes that are not right, each with its error.
func wrongChanges(t testing.TB) map[api.Errno][]api.Change {
	t.Helper()
	turned := func(text string, turn func(c *api.Change)) api.Change {
		c := mustParse(t, text)
		turn(&c)
		return c
	}
	return map[api.Errno][]api.Change{
		api.ErrRange: {
			{},
			turned(createText, func(c *api.Change) { c.Kind = 6 }),
			turned(createText, func(c *api.Change) { c.Seq = 0 }),
			turned(createText, func(c *api.Change) { c.Seq = 2 }),
			turned(firstText, func(c *api.Change) { c.Seq = math.MinInt }),
			turned(firstText, func(c *api.Change) { c.Seq = math.MaxInt }),
			turned(firstText, func(c *api.Change) { c.Deps[0] = -1 }),
			turned(firstText, func(c *api.Change) { c.Deps[0] = math.MaxInt }),
		},
		api.ErrForm: {
			turned(createText, func(c *api.Change) { c.At.Replica = 64 }),
			turned(createText, func(c *api.Change) { c.At.Replica = math.MinInt }),
			turned(createText, func(c *api.Change) { c.At.Replica = math.MaxInt }),
			turned(createText, func(c *api.Change) { c.At.Count = math.MaxInt }),
			turned(createText, func(c *api.Change) { c.Deps = []int{0} }),
			turned(firstText, func(c *api.Change) { c.Deps = []int{1, 1} }),
			turned(firstText, func(c *api.Change) { c.Deps = []int{1, 0} }),
			turned(secondText, func(c *api.Change) { c.Deps = []int{1} }),
			turned(firstText, func(c *api.Change) { c.Node = c.At }),
			turned(createText, func(c *api.Change) { c.Value = "v" }),
		},
		api.ErrName: {
			turned(createText, func(c *api.Change) { c.Name = "P" }),
			turned(firstText, func(c *api.Change) { c.Name = "p" }),
		},
		api.ErrLong: {
			turned(firstText, func(c *api.Change) { c.Deps = make([]int, 65) }),
			turned(firstText, func(c *api.Change) { c.Value = strings.Repeat("v", 257) }),
		},
	}
}

// model is the chapter's buffer in its plainest form: the held changes as they came, gone through from the first one on.
type model struct {
	room int
	held []api.Change
}

func number(known []int, r int) int {
	if r < len(known) {
		return known[r]
	}
	return 0
}

func plainReady(known []int, c api.Change) bool {
	if c.Seq-1 != number(known, c.At.Replica) {
		return false
	}
	for r := range 64 {
		if number(c.Deps, r) > number(known, r) {
			return false
		}
	}
	return true
}

func plainAhead(a, b api.Change) bool {
	if a.At.Count != b.At.Count {
		return a.At.Count < b.At.Count
	}
	if a.At.Replica != b.At.Replica {
		return a.At.Replica < b.At.Replica
	}
	return a.Seq < b.Seq
}

// first tells where the first one in order stands of those that are ready; -1, if none is.
func (m *model) first(known []int) int {
	best := -1
	for i, c := range m.held {
		if plainReady(known, c) && (best < 0 || plainAhead(c, m.held[best])) {
			best = i
		}
	}
	return best
}

func (m *model) has(replica, seq int) bool {
	for _, c := range m.held {
		if c.At.Replica == replica && c.Seq == seq {
			return true
		}
	}
	return false
}

// take: of a clock and a change that are right.
func (m *model) take(known []int, c api.Change) ([]api.Change, api.Errno) {
	if c.Seq <= number(known, c.At.Replica) || m.has(c.At.Replica, c.Seq) {
		return nil, api.ErrTwice
	}
	if !plainReady(known, c) {
		if len(m.held) >= m.room {
			return nil, api.ErrFull
		}
		m.held = append(m.held, change.Copy(c))
		return nil, api.OK
	}
	now := make([]int, 64)
	copy(now, known)
	out := []api.Change{c}
	now[c.At.Replica]++
	for range api.MaxHeld {
		i := m.first(now)
		if i < 0 {
			break
		}
		out = append(out, m.held[i])
		now[m.held[i].At.Replica]++
		m.held = slices.Delete(m.held, i, i+1)
	}
	return out, api.OK
}

func (m *model) stale(known []int) int {
	n := 0
	var left []api.Change
	for _, c := range m.held {
		if c.Seq <= number(known, c.At.Replica) {
			n++
			continue
		}
		left = append(left, c)
	}
	m.held = left
	return n
}

// inOrder tells what is held: again and again the first one of those that are left.
func (m *model) inOrder() []api.Change {
	left := slices.Clone(m.held)
	var out []api.Change
	for range len(m.held) {
		best := 0
		for i := range left {
			if plainAhead(left[i], left[best]) {
				best = i
			}
		}
		out = append(out, left[best])
		left = slices.Delete(left, best, best+1)
	}
	return out
}

func (m *model) clone() *model {
	return &model{room: m.room, held: slices.Clone(m.held)}
}

// wantLike holds a buffer against the model.
func wantLike(t testing.TB, b *Buffer, m *model) {
	t.Helper()
	if b.Len() != len(m.held) || b.Room() != m.room || textsOf(b.Held()) != textsOf(m.inOrder()) {
		t.Fatalf("%d of %d held:\n%s\nwant %d of %d:\n%s",
			b.Len(), b.Room(), textsOf(b.Held()), len(m.held), m.room, textsOf(m.inOrder()))
	}
}

// takeBoth asks the buffer and the model for the same, and wants the same.
func takeBoth(t testing.TB, b *Buffer, m *model, known []int, c api.Change) []api.Change {
	t.Helper()
	got, e := b.Take(known, c)
	want, wantE := m.take(known, c)
	if e != wantE || textsOf(got) != textsOf(want) {
		t.Fatalf("Take(%v, %s): %d\n%s\nwant %d\n%s", known, textOf(c), e, textsOf(got), wantE, textsOf(want))
	}
	wantLike(t, b, m)
	return got
}

func TestReady(t *testing.T) {
	last := `text 1099511627776.63 1 0,2 root ""`
	for _, tt := range []struct {
		text  string
		known []int
		want  bool
	}{
		{createText, nil, true},
		{createText, []int{}, true},
		{createText, []int{0, 0, 0}, true},
		{createText, []int{0, 7}, true},
		{createText, []int{1}, false},
		{createText, []int{2}, false},
		{createText, []int{api.MaxCount}, false},
		{firstText, nil, false},
		{firstText, []int{1}, true},
		{firstText, []int{1, 0}, true},
		{firstText, []int{2}, true},
		{firstText, []int{api.MaxCount}, true},
		{firstText, []int{0, 0}, false},
		{firstText, []int{1, 1}, false},
		{firstText, []int{0, 1}, false},
		{secondText, []int{1}, false},
		{secondText, []int{1, 1}, true},
		{secondText, []int{0, 1}, false},
		{secondText, []int{1, 2}, false},
		{secondText, []int{9, 1, 9}, true},
		{last, []int{0, 2}, true},
		{last, []int{5, 2, 5}, true},
		{last, []int{5, 1, 5}, false},
		{last, append([]int{0, 2}, make([]int, 62)...), true},
		{last, append([]int{0, 2}, ones(62)...), false},
		{`text 1099511627776.0 1099511627776 1099511627775 root ""`, []int{api.MaxCount - 1}, true},
		{`text 1099511627776.0 1099511627776 1099511627775 root ""`, []int{api.MaxCount}, false},
		{`text 1099511627776.0 1099511627776 1099511627775 root ""`, []int{api.MaxCount - 2}, false},
		{`text 9.2 1 1,1 root ""`, []int{1}, false},
		{`text 9.2 1 1,1 root ""`, []int{0, 1}, false},
		{`text 9.2 1 1,1 root ""`, []int{1, 1}, true},
		{`text 9.0 1 0,1 root ""`, nil, false},
		{`text 9.0 1 0,1 root ""`, []int{0, 1}, true},
	} {
		if got := Ready(tt.known, mustParse(t, tt.text)); got != tt.want {
			t.Errorf("Ready(%v, %s): %v", tt.known, tt.text, got)
		}
	}
}

// All small clocks, and all changes of three replicas that hang on few.
func TestReadyAgainstModel(t *testing.T) {
	for _, known := range smallClocks() {
		for _, deps := range smallClocks() {
			for r := range 3 {
				c := changeOn(9, r, deps)
				if got, want := Ready(known, c), plainReady(known, c); got != want {
					t.Errorf("Ready(%v, %s): %v", known, textOf(c), got)
				}
			}
		}
	}
}

// smallClocks are all of three replicas whose numbers are 0 to 2.
func smallClocks() [][]int {
	var out [][]int
	for a := range 3 {
		for b := range 3 {
			for c := range 3 {
				out = append(out, []int{a, b, c})
			}
		}
	}
	return out
}

// changeOn is a right change that hangs on deps, and on nothing else.
func changeOn(count, r int, deps []int) api.Change {
	return api.Change{
		At: api.Stamp{Count: count, Replica: r}, Seq: number(deps, r) + 1, Deps: clock.Trim(deps), Kind: api.KText,
	}
}

func TestReadyOfWrong(t *testing.T) {
	for _, l := range wrongClocks() {
		for _, known := range l {
			for _, text := range []string{createText, firstText, secondText} {
				if Ready(known, mustParse(t, text)) {
					t.Errorf("Ready(%v, %s)", known, text)
				}
			}
		}
	}
	for _, l := range wrongChanges(t) {
		for _, c := range l {
			for _, known := range [][]int{nil, {1}, {1, 1}, {0, 1}, {1, 1, 1}} {
				if Ready(known, c) {
					t.Errorf("Ready(%v, %v)", known, c)
				}
			}
		}
	}
}

func TestNew(t *testing.T) {
	for _, room := range []int{0, 1, 2, 255, 256} {
		b := mustNew(t, room)
		if b.Room() != room || b.Len() != 0 || len(b.Held()) != 0 {
			t.Errorf("New(%d): room %d, held %d", room, b.Room(), b.Len())
		}
	}
	for _, room := range []int{-1, 257, 4096, math.MinInt, math.MaxInt} {
		if b, e := New(room); e != api.ErrRange || b != nil {
			t.Errorf("New(%d): %v %d", room, b, e)
		}
	}
}

// Each New makes a buffer of its own.
func TestNewIsNew(t *testing.T) {
	a, b := mustNew(t, 3), mustNew(t, 3)
	mustHold(t, a, nil, mustParse(t, firstText))
	wantHeld(t, b)
	wantHeld(t, a, firstText)
}

// The chapter's first example.
func TestExample(t *testing.T) {
	b := holding(t, 1, firstText)
	wantHeld(t, b, firstText)
	l, e := b.Take(nil, mustParse(t, createText))
	if e != api.OK {
		t.Errorf("%d", e)
	}
	wantTexts(t, "came", l, createText, firstText)
	wantHeld(t, b)
	wantRefused(t, b, []int{1, 1}, mustParse(t, firstText), api.ErrTwice)
}

// The order is that of the stamps: of the count first, then of the replica; of one stamp that of the numbers.
func TestHeldInOrder(t *testing.T) {
	want := []string{
		`text 2.1 1 1 root "a"`,
		`text 2.2 1 1 root "b"`,
		`text 3.0 2 1 root "c"`,
		`text 3.63 1 9 root "d"`,
		`text 10.1 2 0,1 root "e"`,
		`text 10.1 3 0,2 root "f"`,
		`text 10.1 10 0,9 root "g"`,
		`text 10.2 2 0,0,1 root "h"`,
		`text 11.1 4 0,3 root "i"`,
		`text 1099511627776.0 1099511627776 1099511627775 root "j"`,
	}
	for seed := range 50 {
		b := mustNew(t, len(want))
		for _, i := range rand.New(rand.NewSource(int64(seed))).Perm(len(want)) {
			mustHold(t, b, nil, mustParse(t, want[i]))
		}
		wantHeld(t, b, want...)
	}
}

// Two of one replica and number, whatever else is theirs: one is held at most. Of one stamp, or of one number at different replicas: both.
func TestOneOfEachPlace(t *testing.T) {
	b := holding(t, 9, firstText)
	wantRefused(t, b, nil, mustParse(t, firstText), api.ErrTwice)
	wantRefused(t, b, nil, mustParse(t, `create 9.1 1 5 root - p`), api.ErrTwice)
	wantRefused(t, b, []int{9}, mustParse(t, firstText), api.ErrTwice)
	mustHold(t, b, nil, mustParse(t, `text 2.1 2 0,1 root ""`))
	mustHold(t, b, nil, mustParse(t, `text 2.2 1 1 root ""`))
	wantHeld(t, b, firstText, `text 2.1 2 0,1 root ""`, `text 2.2 1 1 root ""`)
}

// One that is within the clock is refused, whether there is room or not, and whatever its deps are.
func TestTakeWithin(t *testing.T) {
	for _, room := range []int{0, 1, 5} {
		b := mustNew(t, room)
		wantRefused(t, b, []int{1}, mustParse(t, createText), api.ErrTwice)
		wantRefused(t, b, []int{2}, mustParse(t, createText), api.ErrTwice)
		wantRefused(t, b, []int{api.MaxCount}, mustParse(t, createText), api.ErrTwice)
		wantRefused(t, b, []int{0, 1}, mustParse(t, firstText), api.ErrTwice)
		wantRefused(t, b, []int{0, 2}, mustParse(t, firstText), api.ErrTwice)
		wantRefused(t, b, []int{1, 2}, mustParse(t, secondText), api.ErrTwice)
	}
}

// ErrTwice is told ahead of all else that is asked of a right change: of what is held though it is ready by now, too.
func TestTwiceAheadOfTheRest(t *testing.T) {
	b := holding(t, 1, firstText)
	wantRefused(t, b, []int{1}, mustParse(t, firstText), api.ErrTwice)
	wantRefused(t, b, nil, mustParse(t, firstText), api.ErrTwice)
	wantRefused(t, b, []int{0, 1}, mustParse(t, firstText), api.ErrTwice)
	wantHeld(t, b, firstText)
}

func TestTakeWrongClock(t *testing.T) {
	for want, clocks := range wrongClocks() {
		for _, known := range clocks {
			for _, b := range []*Buffer{nil, mustNew(t, 0), mustNew(t, 3), holding(t, 1, firstText)} {
				for _, text := range []string{createText, firstText, secondText} {
					wantRefused(t, b, known, mustParse(t, text), want)
				}
				// Ahead of all that is wrong in the change.
				for _, l := range wrongChanges(t) {
					for _, c := range l {
						wantRefused(t, b, known, c, want)
					}
				}
			}
		}
	}
}

func TestTakeWrongChange(t *testing.T) {
	for want, l := range wrongChanges(t) {
		for _, c := range l {
			for _, known := range [][]int{nil, {1}, {5, 5}, {0, 1}, ones(64)} {
				for _, b := range []*Buffer{nil, mustNew(t, 0), mustNew(t, 3), holding(t, 1, firstText), holding(t, 3, firstText, secondText)} {
					wantRefused(t, b, known, c, want)
				}
			}
		}
	}
}

// A buffer that is full refuses what it would have to hold, and nothing else.
func TestTakeFull(t *testing.T) {
	b := holding(t, 1, firstText)
	wantRefused(t, b, nil, mustParse(t, secondText), api.ErrFull)
	wantRefused(t, b, nil, mustParse(t, `text 9.5 1 1 root ""`), api.ErrFull)
	// Ready, and nobody waited for it.
	l, e := b.Take(nil, mustParse(t, `text 1.5 1 - root ""`))
	if e != api.OK {
		t.Errorf("%d", e)
	}
	wantTexts(t, "came", l, `text 1.5 1 - root ""`)
	wantHeld(t, b, firstText)
	l, e = b.Take(nil, mustParse(t, createText))
	if e != api.OK {
		t.Errorf("%d", e)
	}
	wantTexts(t, "came", l, createText, firstText)
	// There is room again.
	mustHold(t, b, nil, mustParse(t, secondText))
	wantRefused(t, b, nil, mustParse(t, firstText), api.ErrFull)
}

func TestTakeWithoutRoom(t *testing.T) {
	b := mustNew(t, 0)
	wantRefused(t, b, nil, mustParse(t, firstText), api.ErrFull)
	l, e := b.Take([]int{1}, mustParse(t, firstText))
	if e != api.OK {
		t.Errorf("%d", e)
	}
	wantTexts(t, "came", l, firstText)
	wantHeld(t, b)
}

// As many as can be: 256 of one replica from the last one on; the 257th is refused, and the first one brings all.
func TestTakeMost(t *testing.T) {
	b := mustNew(t, api.MaxHeld)
	var want []string
	for seq := 1; seq <= api.MaxHeld+1; seq++ {
		deps := strconv.Itoa(seq - 1)
		if seq == 1 {
			deps = "-"
		}
		want = append(want, `text `+strconv.Itoa(seq)+`.0 `+strconv.Itoa(seq)+` `+deps+` root ""`)
	}
	for i := api.MaxHeld; i >= 1; i-- {
		mustHold(t, b, nil, mustParse(t, want[i]))
	}
	wantRefused(t, b, nil, mustParse(t, `text 258.0 258 257 root ""`), api.ErrFull)
	wantRefused(t, b, nil, mustParse(t, `text 258.1 1 257 root ""`), api.ErrFull)
	wantHeld(t, b, want[1:]...)
	l, e := b.Take(nil, mustParse(t, want[0]))
	if e != api.OK {
		t.Errorf("%d", e)
	}
	wantTexts(t, "came", l, want...)
	wantHeld(t, b)
}

// What comes behind the one that was taken: at each time the first one in order of those that are ready.
func TestReleaseOrder(t *testing.T) {
	for _, tt := range []struct {
		name  string
		held  []string
		known []int
		take  string
		came  []string
		left  []string
	}{
		{
			"nobody waits",
			nil,
			nil,
			`text 1.0 1 - root ""`,
			nil,
			nil,
		},
		{
			"several that are ready at once come in order",
			[]string{`text 3.2 1 1 root ""`, `text 3.1 1 1 root ""`, `text 2.3 1 1 root ""`},
			nil,
			`text 1.0 1 - root ""`,
			[]string{`text 2.3 1 1 root ""`, `text 3.1 1 1 root ""`, `text 3.2 1 1 root ""`},
			nil,
		},
		{
			"one that stands ahead, but waits for a later one, comes behind that",
			[]string{`text 2.1 1 1,0,1 root ""`, `text 5.2 1 1 root ""`, `text 6.3 1 1 root ""`},
			nil,
			`text 1.0 1 - root ""`,
			[]string{`text 5.2 1 1 root ""`, `text 2.1 1 1,0,1 root ""`, `text 6.3 1 1 root ""`},
			nil,
		},
		{
			"by numbers of one replica, not by its stamps",
			[]string{`text 9.0 2 1 root ""`, `text 4.0 3 2 root ""`, `text 5.0 4 3 root ""`},
			nil,
			`text 7.0 1 - root ""`,
			[]string{`text 9.0 2 1 root ""`, `text 4.0 3 2 root ""`, `text 5.0 4 3 root ""`},
			nil,
		},
		{
			"of one stamp the lesser number first",
			[]string{`text 7.1 3 1,2 root ""`, `text 7.1 2 1,1 root ""`, `text 7.1 1 1 root ""`},
			nil,
			`text 1.0 1 - root ""`,
			[]string{`text 7.1 1 1 root ""`, `text 7.1 2 1,1 root ""`, `text 7.1 3 1,2 root ""`},
			nil,
		},
		{
			"those that still wait stay",
			[]string{`text 2.1 1 1 root ""`, `text 4.1 3 1,2 root ""`, `text 3.2 1 2 root ""`},
			nil,
			`text 1.0 1 - root ""`,
			[]string{`text 2.1 1 1 root ""`},
			[]string{`text 3.2 1 2 root ""`, `text 4.1 3 1,2 root ""`},
		},
		{
			"one that the clock has made ready comes, though it did not wait for what is taken",
			[]string{`text 2.1 1 1 root ""`},
			[]int{1},
			`text 1.5 1 - root ""`,
			[]string{`text 2.1 1 1 root ""`},
			nil,
		},
		{
			"one that is ahead of what is taken comes behind it",
			[]string{`text 2.1 1 1 root ""`},
			[]int{1},
			`text 9.5 1 - root ""`,
			[]string{`text 2.1 1 1 root ""`},
			nil,
		},
		{
			"one that is within the clock does not come, and stays",
			[]string{`text 2.1 1 1 root ""`, `text 3.1 2 1,1 root ""`},
			[]int{1, 1},
			`text 9.5 1 - root ""`,
			[]string{`text 3.1 2 1,1 root ""`},
			[]string{`text 2.1 1 1 root ""`},
		},
		{
			"one that what came has gone past stays",
			[]string{`text 2.1 1 1 root ""`},
			[]int{0, 1},
			`text 1.0 1 - root ""`,
			nil,
			[]string{`text 2.1 1 1 root ""`},
		},
		{
			"noughts behind a clock's numbers say nothing",
			[]string{`text 2.1 1 1 root ""`},
			make([]int, 64),
			`text 1.0 1 - root ""`,
			[]string{`text 2.1 1 1 root ""`},
			nil,
		},
		{
			"the last replica, the last number",
			[]string{`text 1099511627776.63 1099511627776 ` + strings.Repeat("0,", 63) + `1099511627775 root ""`},
			append(make([]int, 63), api.MaxCount-2),
			`text 1099511627775.63 1099511627775 ` + strings.Repeat("0,", 63) + `1099511627774 root ""`,
			[]string{`text 1099511627776.63 1099511627776 ` + strings.Repeat("0,", 63) + `1099511627775 root ""`},
			nil,
		},
	} {
		b := holding(t, 9, tt.held...)
		l, e := b.Take(tt.known, mustParse(t, tt.take))
		if e != api.OK {
			t.Errorf("%s: %d", tt.name, e)
		}
		wantTexts(t, tt.name, l, append([]string{tt.take}, tt.came...)...)
		wantHeld(t, b, tt.left...)
	}
}

// One that has to be held brings nothing, though others that are held are ready by now.
func TestHeldBringsNothing(t *testing.T) {
	b := holding(t, 3, firstText)
	mustHold(t, b, []int{1}, mustParse(t, `text 9.5 1 2 root ""`))
	wantHeld(t, b, firstText, `text 9.5 1 2 root ""`)
	b = holding(t, 1, firstText)
	wantRefused(t, b, []int{1}, mustParse(t, `text 9.5 1 2 root ""`), api.ErrFull)
}

// The buffer keeps no clock: a Take goes by the one that it is given, a lesser one than ahead of it, too.
func TestTakeKeepsNoClock(t *testing.T) {
	b := mustNew(t, 3)
	for range 3 {
		l, e := b.Take(nil, mustParse(t, createText))
		if e != api.OK {
			t.Errorf("%d", e)
		}
		wantTexts(t, "came", l, createText)
	}
	mustHold(t, b, nil, mustParse(t, firstText))
	wantRefused(t, b, []int{5, 5}, mustParse(t, firstText), api.ErrTwice)
	wantHeld(t, b, firstText)
}

func TestStale(t *testing.T) {
	texts := []string{
		`text 2.1 1 1 root ""`, `text 3.1 2 1,1 root ""`, `text 4.1 3 1,2 root ""`,
		`text 5.2 2 0,0,1 root ""`, `text 6.2 4 0,0,3 root ""`, `text 7.63 1 1 root ""`,
	}
	for _, tt := range []struct {
		known []int
		gone  []int // their places in texts
	}{
		{nil, nil},
		{[]int{}, nil},
		{[]int{0, 0, 0}, nil},
		{[]int{9}, nil},
		{[]int{9, 0, 1}, nil},
		{[]int{0, 1}, []int{0}},
		{[]int{0, 2}, []int{0, 1}},
		{[]int{0, 3}, []int{0, 1, 2}},
		{[]int{0, api.MaxCount}, []int{0, 1, 2}},
		{[]int{0, 0, 2}, []int{3}},
		{[]int{0, 0, 3}, []int{3}},
		{[]int{0, 0, 4}, []int{3, 4}},
		{[]int{0, 2, 3}, []int{0, 1, 3}},
		{ones(64), []int{0, 5}},
		{append(make([]int, 63), 1), []int{5}},
		{append([]int{0, 9, 9}, ones(61)...), []int{0, 1, 2, 3, 4, 5}},
	} {
		b := holding(t, 6, texts...)
		if n := b.Stale(tt.known); n != len(tt.gone) {
			t.Errorf("Stale(%v): %d, want %d", tt.known, n, len(tt.gone))
		}
		var left []string
		for i, text := range texts {
			if !slices.Contains(tt.gone, i) {
				left = append(left, text)
			}
		}
		wantHeld(t, b, left...)
		if n := b.Stale(tt.known); n != 0 {
			t.Errorf("Stale(%v) once more: %d", tt.known, n)
		}
		wantHeld(t, b, left...)
	}
}

func TestStaleOfWrongClock(t *testing.T) {
	for _, l := range wrongClocks() {
		for _, known := range append(l, []int{0, 9, -1}, append([]int{0, 9}, make([]int, 63)...)) {
			b := holding(t, 6, firstText, secondText)
			if n := b.Stale(known); n != 0 {
				t.Errorf("Stale(%v): %d", known, n)
			}
			wantHeld(t, b, firstText, secondText)
		}
	}
}

// What was let go makes room, may be held again, and does not come.
func TestStaleLetsGo(t *testing.T) {
	b := holding(t, 1, firstText)
	if n := b.Stale([]int{0, 1}); n != 1 {
		t.Errorf("%d", n)
	}
	l, e := b.Take(nil, mustParse(t, createText))
	if e != api.OK {
		t.Errorf("%d", e)
	}
	wantTexts(t, "came", l, createText)
	mustHold(t, b, nil, mustParse(t, firstText))
	wantHeld(t, b, firstText)
}

func TestNilBuffer(t *testing.T) {
	var b *Buffer
	if b.Len() != 0 || b.Room() != 0 || len(b.Held()) != 0 || b.Clone() != nil {
		t.Errorf("%d %d %v %v", b.Len(), b.Room(), b.Held(), b.Clone())
	}
	for _, known := range [][]int{nil, {5, 5}, {-1}, make([]int, 65)} {
		if n := b.Stale(known); n != 0 {
			t.Errorf("Stale(%v): %d", known, n)
		}
	}
	wantRefused(t, b, nil, mustParse(t, firstText), api.ErrFull)
	wantRefused(t, b, []int{0, 1}, mustParse(t, firstText), api.ErrTwice)
	wantRefused(t, b, []int{-1}, mustParse(t, firstText), api.ErrRange)
	wantRefused(t, b, nil, api.Change{}, api.ErrRange)
	for range 2 {
		l, e := b.Take([]int{1}, mustParse(t, firstText))
		if e != api.OK {
			t.Errorf("%d", e)
		}
		wantTexts(t, "came", l, firstText)
	}
}

// A clone has the same, and neither hears of what the other one does.
func TestClone(t *testing.T) {
	a := holding(t, 3, firstText, secondText)
	b := a.Clone()
	wantHeld(t, b, firstText, secondText)
	if b.Room() != 3 {
		t.Errorf("room %d", b.Room())
	}
	b.Stale([]int{0, 1})
	mustHold(t, b, nil, mustParse(t, `text 9.5 1 1 root ""`))
	wantHeld(t, a, firstText, secondText)
	wantHeld(t, b, secondText, `text 9.5 1 1 root ""`)
	a.Take(nil, mustParse(t, createText))
	wantHeld(t, a)
	wantHeld(t, b, secondText, `text 9.5 1 1 root ""`)

	empty := mustNew(t, 0).Clone()
	if empty == nil || empty.Room() != 0 || empty.Len() != 0 {
		t.Errorf("%v", empty)
	}
	full := holding(t, 1, firstText).Clone()
	wantRefused(t, full, nil, mustParse(t, secondText), api.ErrFull)
}

// spoil changes whatever a list of changes has, and what lies in the room behind it.
func spoil(l []api.Change) {
	for i := range l {
		deps := l[i].Deps[:cap(l[i].Deps)]
		for r := range deps {
			deps[r] = 77
		}
		l[i].Value = "spoilt"
		l[i].At.Count = 77
	}
	l = l[:cap(l)]
	for i := range l {
		l[i] = api.Change{Value: "spoilt"}
	}
}

func TestKeepsNothingHandedIn(t *testing.T) {
	b := mustNew(t, 3)
	room := []int{1, 9, 9}
	c := mustParse(t, firstText)
	c.Deps = room[:1]
	known := []int{0, 0, 8}
	mustHold(t, b, known[:2], c)
	if !slices.Equal(room, []int{1, 9, 9}) || !slices.Equal(known, []int{0, 0, 8}) {
		t.Errorf("handed in: %v %v", room, known)
	}
	clone := b.Clone()
	room[0], known[0] = 7, 7
	wantHeld(t, b, firstText)
	wantHeld(t, clone, firstText)

	// What comes by being taken is no argument's memory, either.
	deps := []int{1, 9, 9}
	c.Deps = deps[:1]
	known = []int{1, 0, 8}
	l, e := mustNew(t, 3).Take(known[:2], c)
	if e != api.OK || len(l) != 1 {
		t.Fatalf("%s %d", textsOf(l), e)
	}
	deps[0] = 7
	wantTexts(t, "came", l, firstText)
	spoil(l)
	if !slices.Equal(deps, []int{7, 9, 9}) || !slices.Equal(known, []int{1, 0, 8}) {
		t.Errorf("handed in: %v %v", deps, known)
	}
	stale := []int{0, 1, 8}
	holding(t, 3, firstText).Stale(stale[:2])
	Ready(stale[:2], mustParse(t, firstText))
	if !slices.Equal(stale, []int{0, 1, 8}) {
		t.Errorf("handed in: %v", stale)
	}
}

func TestAnswersNewMemory(t *testing.T) {
	b := holding(t, 3, firstText, secondText)
	clone := b.Clone()
	one, two := b.Held(), b.Held()
	spoil(one)
	wantTexts(t, "held", two, firstText, secondText)
	wantHeld(t, b, firstText, secondText)
	spoil(clone.Held())
	wantHeld(t, clone, firstText, secondText)

	held := b.Held()
	l, e := b.Take(nil, mustParse(t, createText))
	if e != api.OK {
		t.Errorf("%d", e)
	}
	spoil(held)
	wantTexts(t, "came", l, createText, firstText, secondText)
	// No two of one answer share their deps.
	for i := range l {
		spoil(l[i : i+1 : i+1])
		wantTexts(t, "behind", l[i+1:], []string{createText, firstText, secondText}[i+1:]...)
	}
	wantHeld(t, clone, firstText, secondText)
}

// P9.5: each that comes is ready with the clock and what came ahead of it; of those that stay none is ready with all of it.
func wantReleased(t testing.TB, known []int, came []api.Change, held []api.Change) {
	t.Helper()
	for _, c := range came {
		if !Ready(known, c) {
			t.Fatalf("%s came with %v", textOf(c), known)
		}
		known, _ = clock.Tick(known, c.At.Replica)
	}
	for _, c := range held {
		if len(came) > 0 && Ready(known, c) {
			t.Fatalf("%s is held with %v", textOf(c), known)
		}
	}
}

// fewChanges are changes of two replicas that hang on one another, with two that want one place and two of one stamp among them.
func fewChanges(t testing.TB) []api.Change {
	t.Helper()
	return mustParseAll(t,
		`text 1.0 1 - root "a"`,
		`text 5.0 2 1 root "b"`,
		`text 2.1 1 1 root "c"`,
		`text 6.1 1 - root "d"`,
		`text 2.1 2 1,1 root "e"`,
		`text 4.0 3 2,1 root "f"`,
	)
}

// All runs of three changes, with all clocks of a few and all small rooms.
func TestSmallRunsAgainstModel(t *testing.T) {
	all := fewChanges(t)
	clocks := [][]int{nil, {1}, {0, 1}, {1, 1}}
	var run func(b *Buffer, m *model, left int)
	run = func(b *Buffer, m *model, left int) {
		if left == 0 {
			return
		}
		for _, known := range clocks {
			for _, c := range all {
				nextB, nextM := b.Clone(), m.clone()
				came := takeBoth(t, nextB, nextM, known, c)
				wantReleased(t, known, came, nextB.Held())
				run(nextB, nextM, left-1)
			}
			nextB, nextM := b.Clone(), m.clone()
			if got, want := nextB.Stale(known), nextM.stale(known); got != want {
				t.Fatalf("Stale(%v): %d, want %d", known, got, want)
			}
			wantLike(t, nextB, nextM)
		}
	}
	for room := range 3 {
		run(mustNew(t, room), &model{room: room}, 3)
	}
}

// randomChange is a right change of four replicas with small numbers, so that many of them fit together.
func randomChange(r *rand.Rand) api.Change {
	deps := []int{r.Intn(4), r.Intn(4), r.Intn(4), r.Intn(4)}
	if r.Intn(2) == 0 {
		deps = []int{r.Intn(2), r.Intn(2)}
	}
	return changeOn(5+r.Intn(6), r.Intn(4), deps)
}

func TestRandomRunsAgainstModel(t *testing.T) {
	came, most := 0, 0
	for seed := range 300 {
		r := rand.New(rand.NewSource(int64(seed)))
		room := r.Intn(40)
		b, m := mustNew(t, room), &model{room: room}
		var known []int
		for range 200 {
			switch r.Intn(12) {
			case 0:
				if got, want := b.Stale(known), m.stale(known); got != want {
					t.Fatalf("Stale(%v): %d, want %d", known, got, want)
				}
				wantLike(t, b, m)
			case 1:
				// Another one has brought it further, or nothing is known any more.
				known, _ = clock.Tick(known, r.Intn(4))
				if r.Intn(8) == 0 {
					known = nil
				}
			default:
				l := takeBoth(t, b, m, known, randomChange(r))
				wantReleased(t, known, l, b.Held())
				came += len(l)
				most = max(most, len(l))
				for _, c := range l {
					known, _ = clock.Tick(known, c.At.Replica)
				}
			}
		}
	}
	if came < 1000 || most < 4 {
		t.Errorf("the runs are too poor: %d came, %d at once", came, most)
	}
}

// randomLog is a log of n changes, made by replicas of which each one knows some of what the others did.
func randomLog(t testing.TB, r *rand.Rand, replicas, n int) *oplog.Log {
	t.Helper()
	all, e := oplog.New(n)
	if e != api.OK {
		t.Fatal(e)
	}
	logs := make([]*oplog.Log, replicas)
	for i := range logs {
		logs[i], _ = oplog.New(n)
	}
	for range n {
		by := r.Intn(replicas)
		if r.Intn(2) == 0 {
			for c := range logs[r.Intn(replicas)].Each(logs[by].Clock()) {
				logs[by].Add(c)
			}
		}
		known := logs[by].Clock()
		c := changeOn(logs[by].Last()+1, by, known)
		if e := logs[by].Add(c); e != api.OK {
			t.Fatalf("%s: %d", textOf(c), e)
		}
		if e := all.Add(c); e != api.OK {
			t.Fatalf("%s: %d", textOf(c), e)
		}
	}
	return all
}

// comeIn gives the changes to a buffer in the order of places, and adds what comes to a log, whose clock goes on by that.
func comeIn(t testing.TB, room int, changes []api.Change, places []int) *oplog.Log {
	t.Helper()
	b := mustNew(t, room)
	log, _ := oplog.New(len(changes))
	for _, i := range places {
		known := log.Clock()
		l, e := b.Take(known, changes[i])
		if e != api.OK && e != api.ErrTwice {
			t.Fatalf("Take(%v, %s): %d", known, textOf(changes[i]), e)
		}
		wantReleased(t, known, l, b.Held())
		for _, c := range l {
			if e := log.Add(c); e != api.OK {
				t.Fatalf("%s came: %d", textOf(c), e)
			}
		}
	}
	if b.Len() != 0 {
		t.Errorf("held:\n%s", textsOf(b.Held()))
	}
	return log
}

// P9.6: however the changes of a log come, each comes once, and nothing stays held. Here all orders of a few.
func TestAllOrders(t *testing.T) {
	for seed := range 6 {
		want := randomLog(t, rand.New(rand.NewSource(int64(seed))), 3, 6).All()
		eachOrder(len(want), func(places []int) {
			got := comeIn(t, len(want)-1, want, places)
			if textsOf(got.All()) != textsOf(want) {
				t.Fatalf("order %v:\n%s\nwant:\n%s", places, textsOf(got.All()), textsOf(want))
			}
		})
	}
}

// eachOrder does f for each order of the numbers below n.
func eachOrder(n int, f func(places []int)) {
	places := make([]int, n)
	for i := range places {
		places[i] = i
	}
	var swap func(from int)
	swap = func(from int) {
		if from == n {
			f(places)
			return
		}
		for i := from; i < n; i++ {
			places[from], places[i] = places[i], places[from]
			swap(from + 1)
			places[from], places[i] = places[i], places[from]
		}
	}
	swap(0)
}

// P9.6, with many, some of which come more than once.
func TestManyOrders(t *testing.T) {
	for seed := range 40 {
		r := rand.New(rand.NewSource(int64(seed)))
		n := 1 + r.Intn(api.MaxHeld+1)
		want := randomLog(t, r, 1+r.Intn(8), n).All()
		places := r.Perm(n)
		for range r.Intn(20) {
			places = slices.Insert(places, r.Intn(len(places)), r.Intn(n))
		}
		got := comeIn(t, n-1, want, places)
		if textsOf(got.All()) != textsOf(want) {
			t.Fatalf("seed %d:\n%s\nwant:\n%s", seed, textsOf(got.All()), textsOf(want))
		}
	}
}

// The log's own order, turned round, is the worst: all but one are held, and come at once.
func TestLastFirst(t *testing.T) {
	want := randomLog(t, rand.New(rand.NewSource(1)), 5, api.MaxHeld+1).All()
	var places []int
	for i := range want {
		places = append(places, len(want)-1-i)
	}
	got := comeIn(t, api.MaxHeld, want, places)
	if textsOf(got.All()) != textsOf(want) {
		t.Errorf("got:\n%s\nwant:\n%s", textsOf(got.All()), textsOf(want))
	}
}

// What is held costs what it is made of, not what the list had room for that it came in.
func TestKeepsNoMoreThanItHolds(t *testing.T) {
	b := mustNew(t, api.MaxHeld)
	for i := range api.MaxHeld {
		c := changeOn(9, i%8, []int{5, 5, 5, 5, 5, 5, 5, 5})
		c.At.Count += i
		c.Seq += i
		c.Deps[i%8] += i
		c.Deps = append(make([]int, 0, 1<<16), c.Deps...)
		b.Take(nil, c)
	}
	var m runtime.MemStats
	runtime.GC()
	runtime.ReadMemStats(&m)
	if b.Len() != api.MaxHeld || m.HeapAlloc > 64<<20 {
		t.Errorf("%d held, %d bytes", b.Len(), m.HeapAlloc)
	}
}
