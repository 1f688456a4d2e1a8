package oplog

import (
	"math"
	"math/rand"
	"reflect"
	"slices"
	"strconv"
	"strings"
	"testing"

	"topiary/api"
	"topiary/change"
	"topiary/clock"
	"topiary/ident"
)

func stamp(count, replica int) api.Stamp {
	return api.Stamp{Count: count, Replica: replica}
}

func mustParse(t testing.TB, text string) api.Change {
	t.Helper()
	c, e := change.Parse(text)
	if e != api.OK {
		t.Fatalf("%s: %d", text, e)
	}
	return c
}

func mustNew(t testing.TB, room int) *Log {
	t.Helper()
	l, e := New(room)
	if e != api.OK || l == nil {
		t.Fatalf("New(%d): %v %d", room, l, e)
	}
	return l
}

// logOf is a log with these changes, each of which must be taken.
func logOf(t testing.TB, room int, texts ...string) *Log {
	t.Helper()
	l := mustNew(t, room)
	for _, text := range texts {
		mustAdd(t, l, mustParse(t, text))
	}
	return l
}

func mustAdd(t testing.TB, l *Log, c api.Change) {
	t.Helper()
	if e := l.Add(c); e != api.OK {
		t.Fatalf("Add(%s): %d", textOf(c), e)
	}
}

func textOf(c api.Change) string {
	text, e := change.Text(c)
	if e != api.OK {
		return "wrong change, error " + strconv.Itoa(int(e))
	}
	return text
}

func textsOf(l []api.Change) string {
	var out []string
	for _, c := range l {
		out = append(out, textOf(c))
	}
	return strings.Join(out, "\n")
}

func isSameList(a, b []api.Change) bool {
	return slices.EqualFunc(a, b, change.Same)
}

func isZero(c api.Change) bool {
	return change.Same(c, api.Change{})
}

// model is the chapter's log in its plainest form: the changes as they came, gone through from the first one on.
type model struct {
	room int
	all  []api.Change
}

func (m *model) number(r int) int {
	n := 0
	for _, c := range m.all {
		if c.At.Replica == r {
			n++
		}
	}
	return n
}

func (m *model) clock() []int {
	var out []int
	for r := range api.MaxReplicas {
		out = append(out, m.number(r))
	}
	for len(out) > 0 && out[len(out)-1] == 0 {
		out = out[:len(out)-1]
	}
	return out
}

func (m *model) lookFor(is func(api.Change) bool) (api.Change, bool) {
	for _, c := range m.all {
		if is(c) {
			return c, true
		}
	}
	return api.Change{}, false
}

func (m *model) own(r, seq int) (api.Change, bool) {
	return m.lookFor(func(c api.Change) bool { return c.At.Replica == r && c.Seq == seq })
}

func (m *model) find(at api.Stamp) (api.Change, bool) {
	return m.lookFor(func(c api.Change) bool { return c.At == at })
}

func (m *model) last() int {
	n := 0
	for _, c := range m.all {
		n = max(n, c.At.Count)
	}
	return n
}

func within(c api.Change, known []int) bool {
	n := 0
	if c.At.Replica < len(known) {
		n = known[c.At.Replica]
	}
	return c.Seq <= n
}

func (m *model) since(known []int) []api.Change {
	var out []api.Change
	for _, c := range m.all {
		if !within(c, known) {
			out = append(out, c)
		}
	}
	slices.SortFunc(out, func(a, b api.Change) int { return ident.Compare(a.At, b.At) })
	return out
}

func (m *model) add(c api.Change) api.Errno {
	if e := m.check(c); e != api.OK {
		return e
	}
	m.all = append(m.all, change.Copy(c))
	return api.OK
}

func (m *model) check(c api.Change) api.Errno {
	if e := change.Check(c); e != api.OK {
		return e
	}
	if _, ok := m.lookFor(func(o api.Change) bool { return change.Same(o, c) }); ok {
		return api.ErrTwice
	}
	if _, ok := m.lookFor(func(o api.Change) bool {
		return o.At == c.At || o.At.Replica == c.At.Replica && o.Seq == c.Seq
	}); ok {
		return api.ErrState
	}
	if c.Seq != m.number(c.At.Replica)+1 {
		return api.ErrNone
	}
	for r, n := range c.Deps {
		if n > m.number(r) {
			return api.ErrNone
		}
	}
	for r, n := range c.Deps {
		if o, ok := m.own(r, n); ok && ident.Compare(o.At, c.At) >= 0 {
			return api.ErrForm
		}
	}
	for _, s := range change.Names(c) {
		if o, ok := m.find(s); !ok || !within(o, c.Deps) {
			return api.ErrForm
		}
	}
	if len(m.all) >= m.room {
		return api.ErrFull
	}
	return api.OK
}

// compare holds all that l answers against m.
func (m *model) compare(t testing.TB, l *Log) {
	t.Helper()
	if l.Len() != len(m.all) || l.Room() != m.room || l.Last() != m.last() {
		t.Fatalf("Len %d, Room %d, Last %d; want %d, %d, %d", l.Len(), l.Room(), l.Last(), len(m.all), m.room, m.last())
	}
	if got := l.Clock(); !slices.Equal(got, m.clock()) {
		t.Fatalf("Clock %v, want %v", got, m.clock())
	}
	if got := l.All(); !isSameList(got, m.since(nil)) {
		t.Fatalf("All\n%s\nwant\n%s", textsOf(got), textsOf(m.since(nil)))
	}
	for _, c := range m.all {
		if got, ok := l.Find(c.At); !ok || !change.Same(got, c) {
			t.Fatalf("Find(%v): %v %v", c.At, got, ok)
		}
		if got, e := l.Own(c.At.Replica, c.Seq); e != api.OK || !change.Same(got, c) {
			t.Fatalf("Own(%d, %d): %v %d", c.At.Replica, c.Seq, got, e)
		}
	}
	for _, r := range []int{0, 1, 2, 63} {
		if got, e := l.Own(r, m.number(r)+1); e != api.ErrNone || !isZero(got) {
			t.Fatalf("Own(%d, one too far): %v %d", r, got, e)
		}
	}
}

// comparePart holds what l tells of those that are not within known against m.
func (m *model) comparePart(t testing.TB, l *Log, known []int, most int) {
	t.Helper()
	all := m.since(known)
	first := all[:min(most, len(all))]
	got, more, e := l.Since(known, most)
	if e != api.OK || more != (len(all) > most) || !isSameList(got, first) {
		t.Fatalf("Since(%v, %d): %v %d\n%s\nwant\n%s", known, most, more, e, textsOf(got), textsOf(first))
	}
	if got := slices.Collect(l.Each(known)); !isSameList(got, all) {
		t.Fatalf("Each(%v):\n%s\nwant\n%s", known, textsOf(got), textsOf(all))
	}
}

// P7.1

func TestNew(t *testing.T) {
	for _, room := range []int{math.MinInt, -api.MaxChanges, -1, 0, api.MaxChanges + 1, 1 << 32, math.MaxInt} {
		if l, e := New(room); l != nil || e != api.ErrRange {
			t.Errorf("New(%d): %v %d", room, l, e)
		}
	}
	for _, room := range []int{1, 2, 64, api.MaxChanges - 1, api.MaxChanges} {
		m := &model{room: room}
		m.compare(t, mustNew(t, room))
	}
}

func TestAddOfTheExample(t *testing.T) {
	l := logOf(t, 9, `create 1.0 1 - root - p`)
	if e := l.Add(mustParse(t, `text 2.1 1 - 1.0 "a"`)); e != api.ErrForm {
		t.Errorf("1.0 is not within its Deps: %d", e)
	}
	if e := l.Add(mustParse(t, `text 3.1 2 1,1 1.0 "b"`)); e != api.ErrNone {
		t.Errorf("its replica's first one is missing: %d", e)
	}
	if e := l.Add(mustParse(t, `text 2.1 1 1 1.0 "a"`)); e != api.OK {
		t.Errorf("%d", e)
	}
	if got, more, e := l.Since(nil, 1); e != api.OK || !more || textsOf(got) != `create 1.0 1 - root - p` {
		t.Errorf("%s %v %d", textsOf(got), more, e)
	}
}

// What stands in the logs of the tests of Add's errors.
var someTexts = []string{
	`create 5.1 1 - root - p`,
	`create 7.0 1 - root - b`,
	`text 8.0 2 1,1 5.1 "a"`,
	`move 9.2 1 2,1 7.0 5.1 -`,
}

func TestAddOne(t *testing.T) {
	for _, x := range []struct {
		text string
		want api.Errno
	}{
		// Those that are there, and others in their places.
		{`create 5.1 1 - root - p`, api.ErrTwice},
		{`create 7.0 1 - root - b`, api.ErrTwice},
		{`text 8.0 2 1,1 5.1 "a"`, api.ErrTwice},
		{`move 9.2 1 2,1 7.0 5.1 -`, api.ErrTwice},
		{`create 5.1 1 - root - b`, api.ErrState},
		{`create 5.1 1 - trash - p`, api.ErrState},
		{`create 5.1 1 1 root - p`, api.ErrState},
		{`create 5.1 2 0,1 root - p`, api.ErrState},
		{`create 5.1 3 0,2 root - p`, api.ErrState},
		{`text 8.0 2 1 root "a"`, api.ErrState},
		{`text 8.0 2 1,1 5.1 "b"`, api.ErrState},
		{`text 8.0 3 2,1 5.1 "a"`, api.ErrState},
		{`create 9.1 1 - root - p`, api.ErrState},
		{`create 9.0 1 - root - b`, api.ErrState},
		{`text 10.0 2 1,1 5.1 "a"`, api.ErrState},
		{`text 4.0 2 1 root "a"`, api.ErrState},
		{`text 10.2 1 9,9,0,9 3.3 "a"`, api.ErrState},
		{`text 10.0 2 1,9 3.3 "a"`, api.ErrState},

		// What hangs on something that is not there.
		{`create 10.0 4 3 root - p`, api.ErrNone},
		{`create 10.0 10 9 root - p`, api.ErrNone},
		{`create 10.3 2 0,0,0,1 root - p`, api.ErrNone},
		{`create 10.63 1 3 root - p`, api.ErrNone},
		{`create 10.0 3 2,2 root - p`, api.ErrNone},
		{`create 10.0 3 2,0,2 root - p`, api.ErrNone},
		{`create 10.0 3 2,1,1,1 root - p`, api.ErrNone},
		{`create 10.0 3 2,1,1,0,0,1099511627776 root - p`, api.ErrNone},
		{`create 1.3 1 3 root - p`, api.ErrNone},
		{`text 10.3 1 3 6.6 "a"`, api.ErrNone},

		// What is not behind that on which it hangs.
		{`create 7.1 2 1,1 root - p`, api.OK},
		{`create 6.1 2 1,1 root - p`, api.ErrForm},
		{`create 8.3 1 2 root - p`, api.OK},
		{`create 7.3 1 2 root - p`, api.ErrForm},
		{`create 7.3 1 1 root - p`, api.OK},
		{`create 6.3 1 1 root - p`, api.ErrForm},
		{`create 9.3 1 0,0,1 root - p`, api.OK},
		{`create 9.1 2 0,1,1 root - p`, api.ErrForm},
		{`create 4.1 2 0,1 root - p`, api.ErrForm},
		{`create 7.0 3 2 root - p`, api.ErrState},
		{`create 6.0 3 2 root - p`, api.ErrForm},
		{`create 1.3 1 - root - p`, api.OK},
		{`create 6.1 2 0,1 root - p`, api.OK},

		// What names something that its maker did not know.
		{`text 10.3 1 - root "a"`, api.OK},
		{`create 10.3 1 - trash - p`, api.OK},
		{`text 10.3 1 - 7.0 "a"`, api.ErrForm},
		{`text 10.3 1 1 7.0 "a"`, api.OK},
		{`text 10.3 1 1 8.0 "a"`, api.ErrForm},
		{`text 10.3 1 2 8.0 "a"`, api.OK},
		{`text 10.3 1 2 5.1 "a"`, api.ErrForm},
		{`text 10.3 1 2,1,1 6.1 "a"`, api.ErrForm},
		{`text 10.3 1 2,1,1 7.1 "a"`, api.ErrForm},
		{`text 10.3 1 2,1,1 9.2 "a"`, api.OK},
		{`text 10.0 3 2 8.0 "a"`, api.OK},
		{`text 10.1 2 0,1 5.1 "a"`, api.OK},
		{`set 10.3 1 0,1 5.1 a "b"`, api.OK},
		{`set 10.3 1 1 5.1 a "b"`, api.ErrForm},
		{`clear 10.3 1 0,1 5.1 a`, api.OK},
		{`clear 10.3 1 1 5.1 a`, api.ErrForm},
		{`create 10.3 1 1 7.0 - p`, api.OK},
		{`create 10.3 1 0,1 7.0 - p`, api.ErrForm},
		{`create 10.3 1 1 root 7.0 p`, api.OK},
		{`create 10.3 1 0,1 root 7.0 p`, api.ErrForm},
		{`move 10.3 1 2,1 7.0 5.1 8.0`, api.OK},
		{`move 10.3 1 2,1 5.1 trash 7.0`, api.OK},
		{`move 10.3 1 2 7.0 5.1 8.0`, api.ErrForm},
		{`move 10.3 1 1,1 7.0 5.1 8.0`, api.ErrForm},
		{`move 10.3 1 0,1 7.0 5.1 -`, api.ErrForm},
		{`move 10.3 1 - 7.0 root -`, api.ErrForm},
	} {
		l := logOf(t, 9, someTexts...)
		m := &model{room: 9, all: l.All()}
		c := mustParse(t, x.text)
		if want := m.add(c); want != x.want {
			t.Errorf("%s: the tests' own word is %d, not %d", x.text, want, x.want)
		}
		if e := l.Add(c); e != x.want {
			t.Errorf("%s: %d, want %d", x.text, e, x.want)
		}
		m.compare(t, l)
	}
}

// Of several errors the first one: a log that is full tells all others ahead.
func TestAddToAFullLog(t *testing.T) {
	for _, x := range []struct {
		text string
		want api.Errno
	}{
		{`create 7.0 1 - root - b`, api.ErrTwice},
		{`create 7.0 1 - root - p`, api.ErrState},
		{`create 9.0 1 - root - b`, api.ErrState},
		{`create 10.0 4 3 root - p`, api.ErrNone},
		{`create 10.0 3 2,2 root - p`, api.ErrNone},
		{`create 6.0 3 2 root - p`, api.ErrForm},
		{`text 10.3 1 - 7.0 "a"`, api.ErrForm},
		{`text 10.3 1 1 7.0 "a"`, api.ErrFull},
		{`create 1.63 1 - root - p`, api.ErrFull},
	} {
		l := logOf(t, len(someTexts), someTexts...)
		m := &model{room: len(someTexts), all: l.All()}
		for range 2 {
			if e := l.Add(mustParse(t, x.text)); e != x.want {
				t.Errorf("%s: %d, want %d", x.text, e, x.want)
			}
			m.compare(t, l)
		}
	}
}

func TestAddOfWhatIsNotRight(t *testing.T) {
	right := mustParse(t, `set 10.3 1 2,1,1 7.0 a "b"`)
	for i, x := range []struct {
		spoil func(c *api.Change)
		want  api.Errno
	}{
		{func(c *api.Change) { *c = api.Change{} }, api.ErrRange},
		{func(c *api.Change) { c.Kind = 0 }, api.ErrRange},
		{func(c *api.Change) { c.Kind = 6 }, api.ErrRange},
		{func(c *api.Change) { c.Kind = math.MinInt }, api.ErrRange},
		{func(c *api.Change) { c.At = api.Stamp{} }, api.ErrForm},
		{func(c *api.Change) { c.At.Replica = -1 }, api.ErrForm},
		{func(c *api.Change) { c.At.Replica = 64 }, api.ErrForm},
		{func(c *api.Change) { c.At.Replica = math.MaxInt }, api.ErrForm},
		{func(c *api.Change) { c.At.Count = math.MinInt }, api.ErrForm},
		{func(c *api.Change) { c.At.Count = api.MaxCount + 1 }, api.ErrForm},
		{func(c *api.Change) { c.Seq = 0 }, api.ErrRange},
		{func(c *api.Change) { c.Seq = -1 }, api.ErrRange},
		{func(c *api.Change) { c.Seq = 11 }, api.ErrRange},
		{func(c *api.Change) { c.Deps = make([]int, 65) }, api.ErrLong},
		{func(c *api.Change) { c.Deps = []int{2, -1} }, api.ErrRange},
		{func(c *api.Change) { c.Deps = []int{math.MaxInt} }, api.ErrRange},
		{func(c *api.Change) { c.Deps = []int{2, 1, 1, 0} }, api.ErrForm},
		{func(c *api.Change) { c.Deps = []int{2, 1, 1, 1} }, api.ErrForm},
		{func(c *api.Change) { c.Node = stamp(11, 0) }, api.ErrForm},
		{func(c *api.Change) { c.Parent = stamp(7, 0) }, api.ErrForm},
		{func(c *api.Change) { c.Name = "A" }, api.ErrName},
		{func(c *api.Change) { c.Value = strings.Repeat("a", 257) }, api.ErrLong},
		// Wrong, and with the stamp and the number of one that is there: what change.Check says is told first.
		{func(c *api.Change) { *c = mustParse(t, someTexts[0]); c.Name = "P" }, api.ErrName},
		{func(c *api.Change) { *c = mustParse(t, someTexts[2]); c.Value = strings.Repeat("a", 257) }, api.ErrLong},
		{func(c *api.Change) { *c = mustParse(t, someTexts[2]); c.Deps = []int{1, 1, 0} }, api.ErrForm},
		{func(c *api.Change) { *c = mustParse(t, someTexts[3]); c.Kind = 9 }, api.ErrRange},
	} {
		for _, room := range []int{len(someTexts), 9} {
			l := logOf(t, room, someTexts...)
			m := &model{room: room, all: l.All()}
			c := change.Copy(right)
			x.spoil(&c)
			if e := l.Add(c); e != x.want || change.Check(c) != x.want {
				t.Errorf("wrong change %d: %d, want %d", i, e, x.want)
			}
			m.compare(t, l)
		}
	}
}

func TestAddFillsTheRoom(t *testing.T) {
	for _, room := range []int{1, 2, 3, 100, api.MaxChanges} {
		l := mustNew(t, room)
		for i := range room {
			mustAdd(t, l, numbered(i))
		}
		for range 2 {
			if e := l.Add(numbered(room)); e != api.ErrFull {
				t.Errorf("room for %d: %d", room, e)
			}
		}
		if e := l.Add(numbered(room - 1)); e != api.ErrTwice {
			t.Errorf("room for %d: %d", room, e)
		}
		m := &model{room: room}
		for i := range room {
			m.all = append(m.all, numbered(i))
		}
		if l.Len() != room || l.Last() != m.last() || !slices.Equal(l.Clock(), m.clock()) || !isSameList(l.All(), m.since(nil)) {
			t.Errorf("room for %d: %d %d %v", room, l.Len(), l.Last(), l.Clock())
		}
	}
}

// numbered are changes of all replicas, by turns, none of which hangs on another replica's.
func numbered(i int) api.Change {
	r, seq := i%api.MaxReplicas, i/api.MaxReplicas+1
	deps := make([]int, r+1)
	deps[r] = seq - 1
	return api.Change{At: stamp(2*seq, r), Seq: seq, Deps: clock.Trim(deps), Kind: api.KText, Value: strconv.Itoa(i)}
}

func TestAddAtTheEdgesOfCounts(t *testing.T) {
	l := mustNew(t, 9)
	last := mustParse(t, `text 1099511627776.63 1 - root "z"`)
	mustAdd(t, l, last)
	mustAdd(t, l, mustParse(t, `text 1.0 1 - root "a"`))
	mustAdd(t, l, mustParse(t, `text 1099511627776.0 2 1 root "b"`))
	if e := l.Add(mustParse(t, `text 1099511627776.62 1 `+"0"+strings.Repeat(",0", 62)+",1"+` root "c"`)); e != api.ErrForm {
		t.Errorf("ahead of that on which it hangs: %d", e)
	}
	if e := l.Add(mustParse(t, `text 1099511627776.1 1099511627776 0,1099511627775 root "c"`)); e != api.ErrNone {
		t.Errorf("a number that is far too great: %d", e)
	}
	mustAdd(t, l, mustParse(t, `text 1099511627776.61 1 2 1.0 "d"`))
	if l.Last() != api.MaxCount || len(l.Clock()) != api.MaxReplicas {
		t.Errorf("%d %v", l.Last(), l.Clock())
	}
	if got, e := l.Own(63, 1); e != api.OK || !change.Same(got, last) {
		t.Errorf("%v %d", got, e)
	}
}

// smallChanges are all right changes of two replicas with small counts and numbers that write a text or make a node.
func smallChanges() []api.Change {
	var out []api.Change
	stamps := []api.Stamp{{}}
	for count := range 3 {
		stamps = append(stamps, stamp(count+1, 0), stamp(count+1, 1))
	}
	for _, at := range stamps[1:] {
		for seq := 1; seq <= 3; seq++ {
			for other := range 3 {
				deps := []int{seq - 1, other}
				if at.Replica == 1 {
					deps = []int{other, seq - 1}
				}
				base := api.Change{At: at, Seq: seq, Deps: clock.Trim(deps)}
				for _, s := range stamps {
					text, create := base, base
					text.Kind, text.Node = api.KText, s
					create.Kind, create.Node, create.Parent, create.Name = api.KCreate, at, s, "p"
					out = append(out, text, create)
				}
			}
		}
	}
	return slices.DeleteFunc(out, func(c api.Change) bool { return change.Check(c) != api.OK })
}

// Whatever small log there is, and whatever small change: it is taken, or refused, as the chapter says.
func TestAddOfAllSmallChanges(t *testing.T) {
	all := smallChanges()
	met := map[api.Errno]int{}
	seen := map[string]int{}
	var look func(l *Log, m *model)
	look = func(l *Log, m *model) {
		key := textsOf(l.All())
		if seen[key]++; seen[key] > 1 {
			return
		}
		for _, c := range all {
			more, moreModel := l.Clone(), &model{m.room, slices.Clone(m.all)}
			want := moreModel.add(c)
			met[want]++
			if e := more.Add(c); e != want {
				t.Fatalf("%s\nbehind\n%s\n%d, want %d", textOf(c), key, e, want)
			}
			if want == api.OK {
				moreModel.compare(t, more)
				look(more, moreModel)
			}
		}
	}
	look(mustNew(t, 2), &model{room: 2})
	for _, e := range []api.Errno{api.OK, api.ErrTwice, api.ErrState, api.ErrNone, api.ErrForm, api.ErrFull} {
		if met[e] == 0 {
			t.Errorf("no change is answered with %d", e)
		}
	}
}

// anyChange is a change that is right, or nearly so, and may fit behind those of m.
func anyChange(x *rand.Rand, m *model) api.Change {
	r := x.Intn(3)
	c := api.Change{At: stamp(max(1, m.last()-3+x.Intn(6)), r), Seq: m.number(r) + 1, Kind: 1 + x.Intn(5)}
	if x.Intn(8) == 0 {
		c.Seq += x.Intn(5) - 2
	}
	c.Deps = make([]int, 3)
	for other := range 3 {
		if c.Deps[other] = m.number(other); x.Intn(6) == 0 {
			c.Deps[other] += x.Intn(4) - 2
		}
	}
	c.Deps[r] = c.Seq - 1
	c.Deps = clock.Trim(c.Deps)
	anyStamp := func() api.Stamp {
		if len(m.all) == 0 || x.Intn(6) == 0 {
			return stamp(x.Intn(9), x.Intn(3))
		}
		return m.all[x.Intn(len(m.all))].At
	}
	c.Node = anyStamp()
	switch c.Kind {
	case api.KCreate:
		c.Node, c.Name = c.At, "p"
		fallthrough
	case api.KMove:
		c.Parent, c.After = anyStamp(), anyStamp()
	case api.KSet:
		c.Value = strconv.Itoa(x.Intn(3))
		fallthrough
	case api.KClear:
		c.Name = "a"
	case api.KText:
		c.Value = strconv.Itoa(x.Intn(3))
	}
	return c
}

func TestAddOfManyChanges(t *testing.T) {
	met := map[api.Errno]int{}
	for seed := range int64(60) {
		x := rand.New(rand.NewSource(seed))
		room := 1 + x.Intn(40)
		l, m := mustNew(t, room), &model{room: room}
		for range 250 {
			c := anyChange(x, m)
			if len(m.all) > 0 && x.Intn(10) == 0 {
				c = m.all[x.Intn(len(m.all))]
			}
			want := m.add(c)
			met[want]++
			if e := l.Add(c); e != want {
				t.Fatalf("seed %d: %s\nbehind\n%s\n%d, want %d", seed, textOf(c), textsOf(m.all), e, want)
			}
			m.compare(t, l)
			m.comparePart(t, l, []int{x.Intn(9), x.Intn(9), x.Intn(9)}[:x.Intn(4)], 1+x.Intn(12))
		}
	}
	for _, e := range []api.Errno{api.OK, api.ErrTwice, api.ErrState, api.ErrNone, api.ErrForm, api.ErrFull} {
		if met[e] < 100 {
			t.Errorf("%d times only: %d", met[e], e)
		}
	}
}

// P7.2

func TestFind(t *testing.T) {
	l := logOf(t, 9, someTexts...)
	for _, text := range someTexts {
		c := mustParse(t, text)
		if got, ok := l.Find(c.At); !ok || !change.Same(got, c) {
			t.Errorf("%s: %v %v", text, got, ok)
		}
	}
	for _, at := range []api.Stamp{
		{}, stamp(0, 1), stamp(1, 5), stamp(5, 0), stamp(5, 2), stamp(4, 1), stamp(6, 1), stamp(8, 1), stamp(-5, 1), stamp(5, -1),
		stamp(5, 64), stamp(5, 65), stamp(math.MinInt, 0), stamp(math.MaxInt, math.MaxInt), stamp(5, math.MinInt), stamp(api.MaxCount, 63),
	} {
		if got, ok := l.Find(at); ok || !reflect.DeepEqual(got, api.Change{}) {
			t.Errorf("%v: %v %v", at, got, ok)
		}
	}
}

func TestOwn(t *testing.T) {
	l := logOf(t, 9, someTexts...)
	for _, x := range []struct {
		r, seq int
		want   api.Errno
		text   string
	}{
		{0, 1, api.OK, someTexts[1]}, {0, 2, api.OK, someTexts[2]}, {1, 1, api.OK, someTexts[0]}, {2, 1, api.OK, someTexts[3]},
		{0, 0, api.ErrNone, ""}, {0, 3, api.ErrNone, ""}, {0, -1, api.ErrNone, ""}, {1, 0, api.ErrNone, ""}, {1, 2, api.ErrNone, ""},
		{0, 7, api.ErrNone, ""}, {3, 0, api.ErrNone, ""}, {3, 1, api.ErrNone, ""}, {63, 1, api.ErrNone, ""},
		{0, math.MinInt, api.ErrNone, ""}, {0, math.MaxInt, api.ErrNone, ""}, {63, math.MaxInt, api.ErrNone, ""},
		{-1, 1, api.ErrRange, ""}, {64, 1, api.ErrRange, ""}, {math.MinInt, 1, api.ErrRange, ""}, {math.MaxInt, 1, api.ErrRange, ""},
		{-1, 0, api.ErrRange, ""}, {64, -1, api.ErrRange, ""}, {64, math.MaxInt, api.ErrRange, ""},
	} {
		got, e := l.Own(x.r, x.seq)
		if e != x.want || e == api.OK && textOf(got) != x.text || e != api.OK && !reflect.DeepEqual(got, api.Change{}) {
			t.Errorf("Own(%d, %d): %v %d", x.r, x.seq, got, e)
		}
	}
}

func TestWhatIsTold(t *testing.T) {
	l := logOf(t, 9, `create 9.1 1 - root - p`, `create 3.3 1 - root - b`, `text 9.2 1 0,1 9.1 "a"`, `text 4.3 2 0,0,0,1 3.3 "b"`)
	if l.Len() != 4 || l.Room() != 9 || l.Last() != 9 || !slices.Equal(l.Clock(), []int{0, 1, 1, 2}) {
		t.Errorf("%d %d %d %v", l.Len(), l.Room(), l.Last(), l.Clock())
	}
	want := `create 3.3 1 - root - b
text 4.3 2 0,0,0,1 3.3 "b"
create 9.1 1 - root - p
text 9.2 1 0,1 9.1 "a"`
	if got := textsOf(l.All()); got != want {
		t.Errorf("%s", got)
	}
}

// P7.3

func TestSince(t *testing.T) {
	l := logOf(t, 9, someTexts...)
	for _, x := range []struct {
		known []int
		most  int
		want  []int // places of someTexts
		more  bool
	}{
		{nil, 1, []int{0}, true}, {nil, 2, []int{0, 1}, true}, {nil, 3, []int{0, 1, 2}, true}, {nil, 4, []int{0, 1, 2, 3}, false},
		{nil, 5, []int{0, 1, 2, 3}, false}, {[]int{}, math.MaxInt, []int{0, 1, 2, 3}, false},
		{[]int{0, 0, 0}, 1, []int{0}, true}, {make([]int, 64), 4, []int{0, 1, 2, 3}, false},
		{[]int{1}, 9, []int{0, 2, 3}, false}, {[]int{2}, 9, []int{0, 3}, false}, {[]int{0, 1}, 9, []int{1, 2, 3}, false},
		{[]int{1, 1}, 1, []int{2}, true}, {[]int{2, 1}, 1, []int{3}, false}, {[]int{2, 1, 0}, 1, []int{3}, false},
		{[]int{0, 0, 1}, 2, []int{0, 1}, true}, {[]int{1, 0, 1}, 2, []int{0, 2}, false},
		{[]int{2, 1, 1}, 1, nil, false}, {[]int{2, 1, 1, 0, 0}, 9, nil, false}, {[]int{9, 9, 9, 9}, 1, nil, false},
		{slices.Repeat([]int{api.MaxCount}, 64), 1, nil, false}, {[]int{0, 0, 0, 9}, 4, []int{0, 1, 2, 3}, false},
	} {
		var want []string
		for _, i := range x.want {
			want = append(want, someTexts[i])
		}
		got, more, e := l.Since(x.known, x.most)
		if e != api.OK || more != x.more || textsOf(got) != strings.Join(want, "\n") {
			t.Errorf("Since(%v, %d): %s %v %d", x.known, x.most, textsOf(got), more, e)
		}
	}
}

// wrongClocks are lists that are no right clocks, each with its error.
var wrongClocks = []struct {
	known []int
	e     api.Errno
}{
	{make([]int, 65), api.ErrLong},
	{append(make([]int, 64), -1), api.ErrLong},
	{[]int{-1}, api.ErrRange},
	{[]int{1, math.MinInt}, api.ErrRange},
	{[]int{1, 1, api.MaxCount + 1}, api.ErrRange},
	{[]int{math.MaxInt, 1}, api.ErrRange},
}

func TestSinceRefuses(t *testing.T) {
	for _, l := range []*Log{nil, mustNew(t, 9), logOf(t, 9, someTexts...)} {
		refuses := func(known []int, most int, want api.Errno) {
			t.Helper()
			if got, more, e := l.Since(known, most); e != want || more || len(got) != 0 {
				t.Errorf("Since(%v, %d): %v %v %d", known, most, got, more, e)
			}
		}
		for _, most := range []int{0, -1, math.MinInt} {
			refuses(nil, most, api.ErrRange)
			refuses([]int{9, 9, 9}, most, api.ErrRange)
		}
		for _, x := range wrongClocks {
			for _, most := range []int{1, 9, 0, -1} {
				refuses(x.known, most, x.e)
			}
		}
	}
}

func TestEach(t *testing.T) {
	l := logOf(t, 9, someTexts...)
	m := &model{room: 9, all: l.All()}
	for _, known := range [][]int{nil, {}, {0}, {1}, {2}, {3}, {0, 1}, {1, 1}, {2, 1}, {2, 1, 1}, {0, 0, 1}, {9, 9, 9, 9}, make([]int, 64)} {
		m.comparePart(t, l, known, 1)
	}
	for _, x := range wrongClocks {
		seq := l.Each(x.known)
		if seq == nil {
			t.Fatalf("Each(%v) is nil", x.known)
		}
		for c := range seq {
			t.Errorf("Each(%v): %s", x.known, textOf(c))
		}
	}
	for _, known := range [][]int{nil, {9, 9, 9}} {
		if l.Each(known) == nil || mustNew(t, 1).Each(known) == nil {
			t.Errorf("Each(%v) is nil", known)
		}
	}
}

func TestEachIsAsAtTheCall(t *testing.T) {
	l := logOf(t, 9, someTexts...)
	known := []int{1}
	seq := l.Each(known)
	want := l.All()
	want = slices.Delete(want, 1, 2)
	known[0] = 0
	mustAdd(t, l, mustParse(t, `text 1.3 1 - root "first of all"`))
	mustAdd(t, l, mustParse(t, `text 6.1 2 0,1 root "between"`))
	mustAdd(t, l, mustParse(t, `text 99.2 2 2,1,1 root "last of all"`))
	for range 2 {
		if got := slices.Collect(seq); !isSameList(got, want) {
			t.Errorf("%s", textsOf(got))
		}
	}
}

func TestEachWhileTheLogGrows(t *testing.T) {
	l := logOf(t, 99, someTexts...)
	want := textsOf(l.All())
	var got []api.Change
	for c := range l.Each(nil) {
		got = append(got, c)
		n := l.Len()
		mustAdd(t, l, numbered(api.MaxReplicas-n))
	}
	if textsOf(got) != want || l.Len() != 2*len(someTexts) {
		t.Errorf("%d: %s", l.Len(), textsOf(got))
	}
}

func TestEachIsLeftAndGoneOverAgain(t *testing.T) {
	l := logOf(t, 9, someTexts...)
	seq := l.Each(nil)
	all := l.All()
	for most := 1; most <= len(all); most++ {
		var got []api.Change
		for c := range seq {
			got = append(got, c)
			if len(got) == most {
				break
			}
		}
		if !isSameList(got, all[:most]) {
			t.Fatalf("left behind %d: %s", most, textsOf(got))
		}
	}
	pairs := 0
	for a := range seq {
		for b := range seq {
			if change.Less(a, b) {
				pairs++
			}
		}
	}
	if pairs != 6 || !isSameList(slices.Collect(seq), all) {
		t.Errorf("%d pairs", pairs)
	}
}

func TestClone(t *testing.T) {
	for n := range len(someTexts) + 1 {
		l := logOf(t, 9, someTexts[:n]...)
		m := &model{room: 9, all: l.All()}
		other := l.Clone()
		m.compare(t, other)
		if other == l {
			t.Fatal("the same log")
		}
		one, two := mustParse(t, `text 1.3 1 - root "one"`), mustParse(t, `text 1.4 1 - root "two"`)
		mustAdd(t, other, one)
		m.compare(t, l)
		mustAdd(t, l, two)
		(&model{9, append(slices.Clone(m.all), one)}).compare(t, other)
		(&model{9, append(slices.Clone(m.all), two)}).compare(t, l)
	}
	full := logOf(t, 4, someTexts...).Clone()
	if e := full.Add(mustParse(t, `text 1.3 1 - root "one"`)); e != api.ErrFull {
		t.Errorf("a full log's clone: %d", e)
	}
}

// P7.4

func TestNilLog(t *testing.T) {
	var l *Log
	if l.Len() != 0 || l.Room() != 0 || l.Last() != 0 || len(l.Clock()) != 0 || len(l.All()) != 0 || l.Clone() != nil {
		t.Error("a nil log has something")
	}
	for _, at := range []api.Stamp{{}, stamp(1, 0), stamp(-1, 99)} {
		if c, ok := l.Find(at); ok || !reflect.DeepEqual(c, api.Change{}) {
			t.Errorf("Find(%v): %v", at, c)
		}
	}
	for _, x := range []struct {
		r, seq int
		want   api.Errno
	}{{0, 1, api.ErrNone}, {63, 0, api.ErrNone}, {0, math.MinInt, api.ErrNone}, {-1, 1, api.ErrRange}, {64, 1, api.ErrRange}, {math.MaxInt, 0, api.ErrRange}} {
		if c, e := l.Own(x.r, x.seq); e != x.want || !isZero(c) {
			t.Errorf("Own(%d, %d): %v %d", x.r, x.seq, c, e)
		}
	}
	for _, known := range [][]int{nil, {1}, {-1}, make([]int, 65)} {
		if l.Each(known) == nil {
			t.Fatalf("Each(%v) is nil", known)
		}
		for c := range l.Each(known) {
			t.Errorf("%v", c)
		}
	}
	if c, more, e := l.Since([]int{1, 2}, 1); e != api.OK || more || len(c) != 0 {
		t.Errorf("Since: %v %v %d", c, more, e)
	}
}

func TestAddToANilLog(t *testing.T) {
	var l *Log
	for _, x := range []struct {
		text string
		want api.Errno
	}{
		{`create 1.0 1 - root - p`, api.ErrFull},
		{`text 9.63 1 - root "a"`, api.ErrFull},
		{`text 9.63 1 - 1.0 "a"`, api.ErrForm},
		{`text 9.63 1 1 1.0 "a"`, api.ErrNone},
		{`text 9.0 2 1 root "a"`, api.ErrNone},
	} {
		if e := l.Add(mustParse(t, x.text)); e != x.want {
			t.Errorf("%s: %d, want %d", x.text, e, x.want)
		}
	}
	if e := l.Add(api.Change{}); e != api.ErrRange {
		t.Errorf("%d", e)
	}
	wrong := mustParse(t, `create 1.0 1 - root - p`)
	wrong.Name = ""
	if e := l.Add(wrong); e != api.ErrName {
		t.Errorf("%d", e)
	}
}

// Rule 3: nothing that goes in or out is shared.

func TestAddKeepsNothingOfWhatItIsGiven(t *testing.T) {
	l := logOf(t, 9, someTexts[:3]...)
	room := []int{2, 1, 77, 88}
	c := mustParse(t, someTexts[3])
	c.Deps = room[:2]
	mustAdd(t, l, c)
	if !slices.Equal(room, []int{2, 1, 77, 88}) {
		t.Errorf("changed: %v", room)
	}
	room[0], room[1] = 55, 66
	if got := textsOf(l.All()); got != strings.Join(someTexts, "\n") {
		t.Errorf("kept:\n%s", got)
	}
	known := []int{1, 1, 1, 44}[:2]
	l.Since(known, 1)
	for range l.Each(known) {
	}
	if !slices.Equal(known[:4], []int{1, 1, 1, 44}) {
		t.Errorf("changed: %v", known[:4])
	}
}

func spoilAll(l []api.Change) {
	for i := range l {
		for j := range l[i].Deps {
			l[i].Deps[j] = 99
		}
		_ = append(l[i].Deps, 98)
		l[i].At = stamp(97, 7)
		l[i].Value = "spoilt"
	}
	_ = append(l, api.Change{})
}

func TestWhatIsToldIsNewMemory(t *testing.T) {
	l := logOf(t, 9, someTexts...)
	m := &model{room: 9, all: l.All()}
	other := l.Clone()
	seq := l.Each(nil)
	answers := []func() []api.Change{
		l.All,
		func() []api.Change { c, _ := l.Find(stamp(9, 2)); return []api.Change{c} },
		func() []api.Change { c, _ := l.Own(0, 2); return []api.Change{c} },
		func() []api.Change { c, _, _ := l.Since(nil, 3); return c },
		func() []api.Change { c, _, _ := l.Since(nil, 9); return c },
		func() []api.Change { return slices.Collect(seq) },
		func() []api.Change { return slices.Collect(l.Each([]int{1})) },
		other.All,
	}
	for i, answer := range answers {
		was := textsOf(answer())
		spoilAll(answer())
		if got := textsOf(answer()); got != was {
			t.Errorf("answer %d is another one now:\n%s", i, got)
		}
		m.compare(t, l)
		if i < len(answers)-1 {
			m.compare(t, other)
		}
	}
	l.Clock()[0] = 99
	if got := l.Clock(); !slices.Equal(got, []int{2, 1, 1}) {
		t.Errorf("%v", got)
	}
	m.compare(t, l)
	m.compare(t, other)
}

func TestNoTwoListsOfOneAnswerAreShared(t *testing.T) {
	l := logOf(t, 9, someTexts...)
	some, _, _ := l.Since(nil, 9)
	for _, list := range [][]api.Change{l.All(), some, slices.Collect(l.Each(nil))} {
		for i := range list {
			was := textsOf(slices.Delete(slices.Clone(list), i, i+1))
			grown := append(list[i].Deps, 7, 7, 7)
			for j := range grown {
				grown[j] = 99
			}
			if got := textsOf(slices.Delete(slices.Clone(list), i, i+1)); got != was {
				t.Errorf("%s", got)
			}
		}
	}
}

// P7.5, P7.6, P7.7

// history is what some replicas did that heard of one another now and then: their logs, each with room for all.
func history(t testing.TB, x *rand.Rand, replicas, changes int) []*Log {
	t.Helper()
	var logs []*Log
	for range replicas {
		logs = append(logs, mustNew(t, api.MaxChanges))
	}
	for range changes {
		r := x.Intn(replicas)
		if x.Intn(3) == 0 {
			fetch(t, logs[r], logs[x.Intn(replicas)], 1+x.Intn(9))
		}
		mustAdd(t, logs[r], anyEdit(t, x, logs[r], r))
	}
	return logs
}

func anyEdit(t testing.TB, x *rand.Rand, l *Log, r int) api.Change {
	t.Helper()
	at, e := ident.Next(l.Last()+x.Intn(2), r)
	if e != api.OK {
		t.Fatal(e)
	}
	c := api.Change{At: at, Seq: clock.At(l.Clock(), r) + 1, Deps: l.Clock(), Kind: api.KText, Value: strconv.Itoa(x.Intn(99))}
	all := l.All()
	if len(all) > 0 {
		c.Node = all[x.Intn(len(all))].At
	}
	if x.Intn(2) == 0 {
		c.Kind, c.Value, c.Name = api.KCreate, "", "p"
		c.Parent, c.Node = c.Node, at
		if len(all) > 0 && x.Intn(2) == 0 {
			c.After = all[x.Intn(len(all))].At
		}
	}
	return c
}

// fetch adds to l what it lacks of from, part by part; it tells in how many parts that came.
func fetch(t testing.TB, l, from *Log, most int) int {
	t.Helper()
	for parts := 1; parts <= api.MaxChanges; parts++ {
		some, more, e := from.Since(l.Clock(), most)
		if e != api.OK || len(some) > most {
			t.Fatalf("%d changes, %d", len(some), e)
		}
		for _, c := range some {
			mustAdd(t, l, c)
		}
		if !more {
			return parts
		}
	}
	t.Fatal("there are always more")
	return 0
}

func TestAllOnWhichAChangeHangsIsThereAndAhead(t *testing.T) {
	for seed := range int64(20) {
		x := rand.New(rand.NewSource(seed))
		l, m := mustNew(t, 60), &model{room: 60}
		for range 400 {
			c := anyChange(x, m)
			if l.Add(c) == api.OK {
				m.all = append(m.all, c)
			}
			if x.Intn(20) > 0 {
				continue
			}
			for i, c := range l.All() {
				mustHangOn(t, l, c, l.All()[:i])
			}
		}
	}
}

// mustHangOn: ahead has all on which c hangs, and all that it names.
func mustHangOn(t *testing.T, l *Log, c api.Change, ahead []api.Change) {
	t.Helper()
	isAhead := func(o api.Change) bool {
		return slices.ContainsFunc(ahead, func(a api.Change) bool { return change.Same(a, o) })
	}
	for r, n := range c.Deps {
		for seq := 1; seq <= n; seq++ {
			if o, e := l.Own(r, seq); e != api.OK || !isAhead(o) {
				t.Fatalf("%s: the change %d of %d: %v %d", textOf(c), seq, r, o, e)
			}
		}
	}
	for _, s := range change.Names(c) {
		if o, ok := l.Find(s); !ok || !isAhead(o) {
			t.Fatalf("%s: %v: %v %v", textOf(c), s, o, ok)
		}
	}
}

func TestHoweverTheSameChangesCame(t *testing.T) {
	for seed := range int64(30) {
		x := rand.New(rand.NewSource(seed))
		logs := history(t, x, 4, 40)
		all := mustNew(t, 40)
		for _, l := range logs {
			fetch(t, all, l, 64)
		}
		m := &model{room: 40, all: all.All()}
		for range 5 {
			l := mustNew(t, 40)
			addInSomeOrder(t, x, l, all.All())
			m.compare(t, l)
			m.comparePart(t, l, []int{x.Intn(9), x.Intn(9), x.Intn(9), x.Intn(9)}, 1+x.Intn(20))
			for range 20 {
				c := anyChange(x, m)
				if e, f := l.Clone().Add(c), all.Clone().Add(c); e != f {
					t.Fatalf("%s: %d and %d", textOf(c), e, f)
				}
			}
		}
	}
}

// addInSomeOrder tries those that are left in ever new orders, till each of them came at a time at which it could.
func addInSomeOrder(t *testing.T, x *rand.Rand, l *Log, left []api.Change) {
	t.Helper()
	for len(left) > 0 {
		n := len(left)
		x.Shuffle(n, func(i, j int) { left[i], left[j] = left[j], left[i] })
		left = slices.DeleteFunc(left, func(c api.Change) bool { return l.Add(c) == api.OK })
		if len(left) == n {
			t.Fatalf("none of these comes:\n%s", textsOf(left))
		}
	}
}

func TestPartByPartIsTheMerge(t *testing.T) {
	for seed := range int64(30) {
		x := rand.New(rand.NewSource(seed))
		logs := history(t, x, 3, 60)
		for _, most := range []int{1, 2, 3, 7, 64, math.MaxInt} {
			l, from := logs[0].Clone(), logs[1]
			want, e := clock.Merge(l.Clock(), from.Clock())
			if e != api.OK {
				t.Fatal(e)
			}
			lacks := len(slices.Collect(from.Each(l.Clock())))
			both := &model{room: api.MaxChanges, all: l.All()}
			for _, c := range from.All() {
				if _, ok := both.find(c.At); !ok {
					both.all = append(both.all, c)
				}
			}
			was := textsOf(from.All())
			parts := fetch(t, l, from, most)
			if enough := max(1, lacks/most+min(1, lacks%most)); parts != enough {
				t.Errorf("%d changes by %d: %d parts", lacks, most, parts)
			}
			both.compare(t, l)
			if !slices.Equal(l.Clock(), want) || textsOf(from.All()) != was {
				t.Errorf("seed %d, most %d: %v, want %v", seed, most, l.Clock(), want)
			}
			if some, more, e := from.Since(l.Clock(), 1); e != api.OK || more || len(some) != 0 {
				t.Errorf("still lacking: %s", textsOf(some))
			}
		}
	}
}
