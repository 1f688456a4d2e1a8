package bags

import (
	"bytes"
	"iter"
	"math"
	"math/rand"
	"runtime"
	"slices"
	"strconv"
	"testing"

	"topiary/api"
	"topiary/seal"
)

func mustNew(t testing.TB, n int) *Net {
	t.Helper()
	x, e := New(n)
	if e != api.OK || x == nil {
		t.Fatalf("New(%d): %v %d", n, x, e)
	}
	return x
}

func mustSend(t testing.TB, x *Net, from, to int, frames ...string) {
	t.Helper()
	for _, f := range frames {
		if e := x.Send(from, to, []byte(f)); e != api.OK {
			t.Fatalf("Send(%d, %d, %q): %d", from, to, f, e)
		}
	}
}

// framesOf tells all frames of a link, as Peek tells them.
func framesOf(t testing.TB, x *Net, from, to int) []string {
	t.Helper()
	var out []string
	for i := range x.Waiting(from, to) {
		p, e := x.Peek(from, to, i)
		if e != api.OK {
			t.Fatalf("Peek(%d, %d, %d): %d", from, to, i, e)
		}
		out = append(out, string(p))
	}
	return out
}

func wantFrames(t testing.TB, x *Net, from, to int, want ...string) {
	t.Helper()
	if got := framesOf(t, x, from, to); !slices.Equal(got, want) {
		t.Errorf("from %d to %d: %q, want %q", from, to, got, want)
	}
}

// full is a net of three whose link from 0 to 1 has as many frames as can be: 0, 1, 2 .. as texts.
func full(t testing.TB) *Net {
	t.Helper()
	x := mustNew(t, 3)
	for i := range api.MaxBag {
		mustSend(t, x, 0, 1, strconv.Itoa(i))
	}
	return x
}

// linkCalls are all calls that are given a link and may be refused, with arguments that are wrong beside.
func linkCalls(x *Net) map[string]func(from, to int) ([]byte, api.Errno) {
	long := make([]byte, api.MaxLoad+10)
	return map[string]func(from, to int) ([]byte, api.Errno){
		"Send":    func(f, t int) ([]byte, api.Errno) { return nil, x.Send(f, t, nil) },
		"Send2":   func(f, t int) ([]byte, api.Errno) { return nil, x.Send(f, t, long) },
		"Deliver": func(f, t int) ([]byte, api.Errno) { return x.Deliver(f, t, 0) },
		"Lose":    func(f, t int) ([]byte, api.Errno) { return nil, x.Lose(f, t, -1) },
		"Double":  func(f, t int) ([]byte, api.Errno) { return nil, x.Double(f, t, 0) },
		"Spoil":   func(f, t int) ([]byte, api.Errno) { return nil, x.Spoil(f, t, 0, 0, 1) },
		"Spoil2":  func(f, t int) ([]byte, api.Errno) { return nil, x.Spoil(f, t, 9, -1, 0) },
		"Peek":    func(f, t int) ([]byte, api.Errno) { return x.Peek(f, t, math.MaxInt) },
	}
}

// wantNoLink asks all calls of a link that is none.
func wantNoLink(t testing.TB, x *Net, from, to int, want api.Errno) {
	t.Helper()
	for name, call := range linkCalls(x) {
		if p, e := call(from, to); e != want || len(p) != 0 {
			t.Errorf("%s from %d to %d of %d: %q %d, want %d", name, from, to, x.Size(), p, e, want)
		}
	}
	if n := x.Waiting(from, to); n != 0 {
		t.Errorf("Waiting(%d, %d) of %d: %d", from, to, x.Size(), n)
	}
}

// model is the chapter's net in its plainest form: all frames in the order in which they came, gone through from the first one on.
type model struct {
	n   int
	all []sent
}

type sent struct {
	from, to int
	frame    []byte
	spoilt   bool
}

func (m *model) link(from, to int) api.Errno {
	if from < 0 || to < 0 || from >= m.n || to >= m.n {
		return api.ErrRange
	}
	if from == to {
		return api.ErrState
	}
	return api.OK
}

// find tells where the link's frame number i stands.
func (m *model) find(from, to, i int) (int, api.Errno) {
	if e := m.link(from, to); e != api.OK {
		return 0, e
	}
	for at, s := range m.all {
		if s.from != from || s.to != to {
			continue
		}
		if i == 0 {
			return at, api.OK
		}
		i--
	}
	return 0, api.ErrNone
}

func (m *model) waiting(from, to int) int {
	n := 0
	for _, s := range m.all {
		if s.from == from && s.to == to {
			n++
		}
	}
	return n
}

func (m *model) put(s sent) api.Errno {
	if m.waiting(s.from, s.to) >= api.MaxBag {
		return api.ErrFull
	}
	s.frame = bytes.Clone(s.frame)
	m.all = append(m.all, s)
	return api.OK
}

func (m *model) send(from, to int, frame []byte) api.Errno {
	if e := m.link(from, to); e != api.OK {
		return e
	}
	if len(frame) > 65545 {
		return api.ErrLong
	}
	return m.put(sent{from: from, to: to, frame: frame})
}

func (m *model) peek(from, to, i int) ([]byte, api.Errno) {
	at, e := m.find(from, to, i)
	if e != api.OK {
		return nil, e
	}
	return m.all[at].frame, api.OK
}

func (m *model) deliver(from, to, i int) ([]byte, api.Errno) {
	at, e := m.find(from, to, i)
	if e != api.OK {
		return nil, e
	}
	out := m.all[at].frame
	m.all = slices.Delete(m.all, at, at+1)
	return out, api.OK
}

func (m *model) double(from, to, i int) api.Errno {
	at, e := m.find(from, to, i)
	if e != api.OK {
		return e
	}
	return m.put(m.all[at])
}

func (m *model) spoil(from, to, i, at, mask int) api.Errno {
	where, e := m.find(from, to, i)
	if e != api.OK {
		return e
	}
	s := &m.all[where]
	if s.spoilt {
		return api.ErrTwice
	}
	if at < 0 || at >= len(s.frame) {
		return api.ErrRange
	}
	if mask&255 == 0 {
		return api.ErrState
	}
	s.frame[at] ^= byte(mask & 255)
	s.spoilt = true
	return api.OK
}

func (m *model) ways() []api.Way {
	var out []api.Way
	for from := range m.n {
		for to := range m.n {
			if n := m.waiting(from, to); n > 0 {
				out = append(out, api.Way{From: from, To: to, Frames: n})
			}
		}
	}
	return out
}

func (m *model) clone() *model {
	out := &model{n: m.n}
	for _, s := range m.all {
		s.frame = bytes.Clone(s.frame)
		out.all = append(out.all, s)
	}
	return out
}

// compare holds all that x answers against m.
func (m *model) compare(t testing.TB, x *Net) {
	t.Helper()
	if x.Size() != m.n || x.Len() != len(m.all) {
		t.Fatalf("Size %d, Len %d; want %d, %d", x.Size(), x.Len(), m.n, len(m.all))
	}
	if got := slices.Collect(x.Ways()); !slices.Equal(got, m.ways()) {
		t.Fatalf("Ways %v, want %v", got, m.ways())
	}
	for from := range m.n {
		for to := range m.n {
			m.compareLink(t, x, from, to)
		}
	}
}

func (m *model) compareLink(t testing.TB, x *Net, from, to int) {
	t.Helper()
	n := m.waiting(from, to)
	if got := x.Waiting(from, to); got != n {
		t.Fatalf("Waiting(%d, %d) %d, want %d", from, to, got, n)
	}
	for i := -1; i <= n; i++ {
		p, e := x.Peek(from, to, i)
		want, wantE := m.peek(from, to, i)
		if e != wantE || !bytes.Equal(p, want) {
			t.Fatalf("Peek(%d, %d, %d): %q %d, want %q %d", from, to, i, p, e, want, wantE)
		}
	}
}

// P8.1

func TestNew(t *testing.T) {
	for _, n := range []int{math.MinInt, -1 << 32, -64, -1, 0, 65, 66, 256, 1<<32 + 1, math.MaxInt} {
		if x, e := New(n); x != nil || e != api.ErrRange {
			t.Errorf("New(%d): %v %d", n, x, e)
		}
	}
	for n := 1; n <= api.MaxReplicas; n++ {
		m := &model{n: n}
		m.compare(t, mustNew(t, n))
	}
}

func TestNewTellsAnotherOneEachTime(t *testing.T) {
	a, b := mustNew(t, 2), mustNew(t, 2)
	mustSend(t, a, 0, 1, "a")
	if b.Len() != 0 {
		t.Error("what one has the other one has, too")
	}
}

func TestNoSuchReplica(t *testing.T) {
	outside := []int{math.MinInt, -1 << 32, -2, -1, 3, 4, 63, 64, 1 << 32, 1<<62 + 1, math.MaxInt}
	x := full(t)
	mustSend(t, x, 2, 0, "a")
	m := modelOf(t, x)
	for _, r := range outside {
		for within := range 3 {
			wantNoLink(t, x, r, within, api.ErrRange)
			wantNoLink(t, x, within, r, api.ErrRange)
		}
		// The same twice, and none of the net's: the first error counts.
		for _, s := range outside {
			wantNoLink(t, x, r, s, api.ErrRange)
		}
	}
	m.compare(t, x)
}

func TestLinkToItself(t *testing.T) {
	for _, n := range []int{1, 2, 3, 64} {
		x := mustNew(t, n)
		for r := range n {
			wantNoLink(t, x, r, r, api.ErrState)
		}
		(&model{n: n}).compare(t, x)
	}
}

// A net of one has no link at all.
func TestNetOfOne(t *testing.T) {
	x := mustNew(t, 1)
	wantNoLink(t, x, 0, 0, api.ErrState)
	wantNoLink(t, x, 0, 1, api.ErrRange)
	wantNoLink(t, x, 1, 0, api.ErrRange)
	wantNoLink(t, x, 1, 1, api.ErrRange)
	if x.Size() != 1 || x.Len() != 0 {
		t.Errorf("%d %d", x.Size(), x.Len())
	}
}

// modelOf is a model that has what x has, none of which was spoilt.
func modelOf(t testing.TB, x *Net) *model {
	t.Helper()
	m := &model{n: x.Size()}
	for w := range x.Ways() {
		for _, f := range framesOf(t, x, w.From, w.To) {
			m.all = append(m.all, sent{from: w.From, to: w.To, frame: []byte(f)})
		}
	}
	return m
}

// P8.2

func TestTheExample(t *testing.T) {
	x := mustNew(t, 2)
	mustSend(t, x, 0, 1, "a", "b")
	if e := x.Double(0, 1, 0); e != api.OK || x.Waiting(0, 1) != 3 {
		t.Errorf("%d %d", e, x.Waiting(0, 1))
	}
	if p, e := x.Deliver(0, 1, 0); string(p) != "a" || e != api.OK {
		t.Errorf("%q %d", p, e)
	}
	wantFrames(t, x, 0, 1, "b", "a")
	if e := x.Send(0, 0, []byte("a")); e != api.ErrState {
		t.Errorf("%d", e)
	}
	if e := x.Send(0, 2, []byte("a")); e != api.ErrRange {
		t.Errorf("%d", e)
	}
}

func TestSendIsLast(t *testing.T) {
	x := mustNew(t, 3)
	mustSend(t, x, 0, 1, "b", "", "a", "b")
	mustSend(t, x, 1, 0, "c")
	mustSend(t, x, 0, 1, "\x00\xff")
	wantFrames(t, x, 0, 1, "b", "", "a", "b", "\x00\xff")
	wantFrames(t, x, 1, 0, "c")
	wantFrames(t, x, 0, 2)
}

func TestSendOfSizes(t *testing.T) {
	for _, n := range []int{0, 1, 8, 9, 10, 1000, api.MaxLoad, api.MaxLoad + 8, api.MaxLoad + 9} {
		x := mustNew(t, 2)
		frame := bytes.Repeat([]byte{7}, n)
		if e := x.Send(1, 0, frame); e != api.OK {
			t.Errorf("%d bytes: %d", n, e)
		}
		if p, e := x.Deliver(1, 0, 0); e != api.OK || !bytes.Equal(p, frame) {
			t.Errorf("%d bytes came as %d: %d", n, len(p), e)
		}
	}
	for _, n := range []int{api.MaxLoad + 10, api.MaxLoad + 11, 2 * api.MaxLoad, 1 << 20} {
		x := mustNew(t, 2)
		if e := x.Send(1, 0, make([]byte, n)); e != api.ErrLong || x.Len() != 0 {
			t.Errorf("%d bytes: %d %d", n, e, x.Len())
		}
	}
}

// The greatest frame that layer 4 makes has room, whatever is in it.
func TestSendOfTheGreatestFrame(t *testing.T) {
	frame, e := seal.Seal(3, make([]byte, api.MaxLoad))
	if e != api.OK {
		t.Fatal(e)
	}
	x := mustNew(t, 2)
	if e := x.Send(0, 1, frame); e != api.OK {
		t.Errorf("%d", e)
	}
}

func TestSendToAFullLink(t *testing.T) {
	x := full(t)
	m := modelOf(t, x)
	for range 2 {
		if e := x.Send(0, 1, []byte("more")); e != api.ErrFull {
			t.Errorf("%d", e)
		}
		if e := x.Send(0, 1, nil); e != api.ErrFull {
			t.Errorf("of nothing: %d", e)
		}
		if e := x.Send(0, 1, make([]byte, api.MaxLoad+10)); e != api.ErrLong {
			t.Errorf("too long, too: %d", e)
		}
	}
	m.compare(t, x)
	mustSend(t, x, 1, 0, "other links have room")
	if e := x.Lose(0, 1, 5); e != api.OK {
		t.Fatal(e)
	}
	mustSend(t, x, 0, 1, "more")
	if p, e := x.Peek(0, 1, api.MaxBag-1); string(p) != "more" || e != api.OK {
		t.Errorf("%q %d", p, e)
	}
	if e := x.Send(0, 1, nil); e != api.ErrFull {
		t.Errorf("full again: %d", e)
	}
}

func TestNoSuchFrame(t *testing.T) {
	for _, n := range []int{0, 1, 3, api.MaxBag} {
		x := mustNew(t, 2)
		for range n {
			mustSend(t, x, 0, 1, "ab")
		}
		mustSend(t, x, 1, 0, "c", "d", "e", "f")
		m := modelOf(t, x)
		for _, i := range []int{math.MinInt, -1 << 32, -2, -1, n, n + 1, n + 256, 1 << 32, math.MaxInt} {
			if p, e := x.Peek(0, 1, i); e != api.ErrNone || len(p) != 0 {
				t.Errorf("Peek of %d among %d: %q %d", i, n, p, e)
			}
			if p, e := x.Deliver(0, 1, i); e != api.ErrNone || len(p) != 0 {
				t.Errorf("Deliver of %d among %d: %q %d", i, n, p, e)
			}
			if e := x.Lose(0, 1, i); e != api.ErrNone {
				t.Errorf("Lose of %d among %d: %d", i, n, e)
			}
			if e := x.Double(0, 1, i); e != api.ErrNone {
				t.Errorf("Double of %d among %d: %d", i, n, e)
			}
			for _, at := range []int{-1, 0, 2} {
				for _, mask := range []int{0, 1} {
					if e := x.Spoil(0, 1, i, at, mask); e != api.ErrNone {
						t.Errorf("Spoil of %d among %d: %d", i, n, e)
					}
				}
			}
		}
		m.compare(t, x)
	}
}

func TestPeekLeavesAllAsItIs(t *testing.T) {
	x := mustNew(t, 2)
	mustSend(t, x, 0, 1, "a", "b", "c")
	for range 3 {
		wantFrames(t, x, 0, 1, "a", "b", "c")
	}
}

// Whichever goes, those behind it move down by one, and those ahead of it stay.
func TestWhatGoes(t *testing.T) {
	all := []string{"a", "b", "", "b", "e"}
	for n := range len(all) + 1 {
		for i := range n {
			want := slices.Delete(slices.Clone(all[:n]), i, i+1)
			x := mustNew(t, 2)
			mustSend(t, x, 0, 1, all[:n]...)
			if p, e := x.Deliver(0, 1, i); string(p) != all[i] || e != api.OK {
				t.Errorf("Deliver of %d of %q: %q %d", i, all[:n], p, e)
			}
			wantFrames(t, x, 0, 1, want...)
			y := mustNew(t, 2)
			mustSend(t, y, 0, 1, all[:n]...)
			if e := y.Lose(0, 1, i); e != api.OK {
				t.Errorf("Lose of %d of %q: %d", i, all[:n], e)
			}
			wantFrames(t, y, 0, 1, want...)
			mustSend(t, y, 0, 1, "new")
			wantFrames(t, y, 0, 1, append(want, "new")...)
		}
	}
}

func TestAllOfAFullLinkGo(t *testing.T) {
	x := full(t)
	for i := range api.MaxBag {
		if p, e := x.Deliver(0, 1, 0); string(p) != strconv.Itoa(i) || e != api.OK {
			t.Fatalf("%d: %q %d", i, p, e)
		}
	}
	if _, e := x.Deliver(0, 1, 0); e != api.ErrNone || x.Len() != 0 {
		t.Errorf("%d %d", e, x.Len())
	}
	y := full(t)
	for i := api.MaxBag - 1; i >= 0; i-- {
		if p, e := y.Deliver(0, 1, i); string(p) != strconv.Itoa(i) || e != api.OK {
			t.Fatalf("%d: %q %d", i, p, e)
		}
	}
}

// P8.3

func TestDouble(t *testing.T) {
	x := mustNew(t, 2)
	mustSend(t, x, 0, 1, "a", "b", "")
	for _, i := range []int{1, 0, 2, 3} {
		if e := x.Double(0, 1, i); e != api.OK {
			t.Errorf("%d: %d", i, e)
		}
	}
	wantFrames(t, x, 0, 1, "a", "b", "", "b", "a", "", "b")
}

func TestDoubleOnAFullLink(t *testing.T) {
	x := full(t)
	m := modelOf(t, x)
	for _, i := range []int{0, 1, api.MaxBag - 1} {
		if e := x.Double(0, 1, i); e != api.ErrFull {
			t.Errorf("%d: %d", i, e)
		}
	}
	for _, i := range []int{-1, api.MaxBag} {
		if e := x.Double(0, 1, i); e != api.ErrNone {
			t.Errorf("%d: %d", i, e)
		}
	}
	m.compare(t, x)
	if e := x.Lose(0, 1, 0); e != api.OK {
		t.Fatal(e)
	}
	if e := x.Double(0, 1, 0); e != api.OK {
		t.Errorf("room for one: %d", e)
	}
	if p, e := x.Peek(0, 1, api.MaxBag-1); string(p) != "1" || e != api.OK {
		t.Errorf("%q %d", p, e)
	}
}

// Two of which one was made of the other one are two: what is done to one leaves the other one as it is.
func TestDoubledFramesAreTwo(t *testing.T) {
	x := mustNew(t, 2)
	mustSend(t, x, 0, 1, "ab")
	if e := x.Double(0, 1, 0); e != api.OK {
		t.Fatal(e)
	}
	if e := x.Spoil(0, 1, 0, 1, 3); e != api.OK {
		t.Errorf("%d", e)
	}
	wantFrames(t, x, 0, 1, "aa", "ab")
	if e := x.Spoil(0, 1, 1, 0, 2); e != api.OK {
		t.Errorf("the other one is not spoilt: %d", e)
	}
	wantFrames(t, x, 0, 1, "aa", "cb")
}

// Links that are full of one frame of the greatest size keep its bytes once, and so do their clones.
func TestDoubledFramesTakeNoRoom(t *testing.T) {
	var before, after runtime.MemStats
	runtime.ReadMemStats(&before)
	x := mustNew(t, 2)
	frame := make([]byte, api.MaxLoad+9)
	if e := x.Send(0, 1, frame); e != api.OK {
		t.Fatal(e)
	}
	for range api.MaxBag - 1 {
		if e := x.Double(0, 1, 0); e != api.OK {
			t.Fatal(e)
		}
	}
	y := x.Clone()
	runtime.ReadMemStats(&after)
	if y.Len() != api.MaxBag || x.Len() != api.MaxBag {
		t.Errorf("%d %d", x.Len(), y.Len())
	}
	if n := after.TotalAlloc - before.TotalAlloc; n > uint64(64*len(frame)) {
		t.Errorf("%d bytes", n)
	}
}

// What has gone is kept nowhere, not even behind the end of a link's list.
func TestWhatHasGoneIsNotKept(t *testing.T) {
	x := mustNew(t, 2)
	mustSend(t, x, 0, 1, "a", "b", "c", "d", "e")
	x.Lose(0, 1, 1)
	x.Deliver(0, 1, 3)
	x.Lose(0, 1, 0)
	wantFrames(t, x, 0, 1, "c", "d")
	for _, b := range x.bags {
		for i, p := range b.parcels[len(b.parcels):cap(b.parcels)] {
			if p != (parcel{}) {
				t.Errorf("%d behind the end: %v", i, p)
			}
		}
	}
}

func TestSpoil(t *testing.T) {
	for _, c := range []struct {
		frame    string
		at, mask int
		want     string
		e        api.Errno
	}{
		{"abc", 0, 1, "\x60bc", api.OK},
		{"abc", 1, 0xff, "a\x9dc", api.OK},
		{"abc", 2, 0x80, "ab\xe3", api.OK},
		{"abc", 2, 0x101, "abb", api.OK},
		{"abc", 2, -1, "ab\x9c", api.OK},
		{"abc", 0, math.MaxInt, "\x9ebc", api.OK},
		{"a", 0, -255, "\x60", api.OK},
		{"abc", -1, 1, "abc", api.ErrRange},
		{"abc", 3, 1, "abc", api.ErrRange},
		{"abc", math.MinInt, 1, "abc", api.ErrRange},
		{"abc", math.MaxInt, 1, "abc", api.ErrRange},
		{"", 0, 1, "", api.ErrRange},
		{"", -1, 0, "", api.ErrRange},
		{"abc", 3, 0, "abc", api.ErrRange},
		{"abc", 0, 0, "abc", api.ErrState},
		{"abc", 2, 256, "abc", api.ErrState},
		{"abc", 1, -256, "abc", api.ErrState},
		{"abc", 1, math.MinInt, "abc", api.ErrState},
		{"abc", 1, 1 << 32, "abc", api.ErrState},
	} {
		x := mustNew(t, 2)
		mustSend(t, x, 1, 0, "ahead", c.frame, "behind")
		mustSend(t, x, 0, 1, "other", c.frame)
		if e := x.Spoil(1, 0, 1, c.at, c.mask); e != c.e {
			t.Errorf("%q, %d, %d: %d, want %d", c.frame, c.at, c.mask, e, c.e)
		}
		wantFrames(t, x, 1, 0, "ahead", c.want, "behind")
		wantFrames(t, x, 0, 1, "other", c.frame)
	}
}

// A frame that was refused to be spoilt is not spoilt.
func TestSpoilRefusedIsNoSpoil(t *testing.T) {
	x := mustNew(t, 2)
	mustSend(t, x, 0, 1, "ab")
	for range 2 {
		if e := x.Spoil(0, 1, 0, 2, 1); e != api.ErrRange {
			t.Errorf("%d", e)
		}
		if e := x.Spoil(0, 1, 0, 1, 256); e != api.ErrState {
			t.Errorf("%d", e)
		}
	}
	if e := x.Spoil(0, 1, 0, 1, 1); e != api.OK {
		t.Errorf("%d", e)
	}
	wantFrames(t, x, 0, 1, "ac")
}

func TestSpoilTwice(t *testing.T) {
	x := mustNew(t, 2)
	mustSend(t, x, 0, 1, "abc")
	if e := x.Spoil(0, 1, 0, 1, 1); e != api.OK {
		t.Fatal(e)
	}
	// At the same place and at another one, and where other errors apply, too.
	for _, at := range []int{math.MinInt, -1, 0, 1, 2, 3, math.MaxInt} {
		for _, mask := range []int{0, 1, 2, 255, 256} {
			if e := x.Spoil(0, 1, 0, at, mask); e != api.ErrTwice {
				t.Errorf("%d, %d: %d", at, mask, e)
			}
		}
	}
	wantFrames(t, x, 0, 1, "acc")
}

// What is spoilt stays so, whatever goes ahead of it, and what comes into its place is not.
func TestSpoiltMovesDown(t *testing.T) {
	x := mustNew(t, 2)
	mustSend(t, x, 0, 1, "a", "b", "c")
	if e := x.Spoil(0, 1, 1, 0, 1); e != api.OK {
		t.Fatal(e)
	}
	if e := x.Lose(0, 1, 0); e != api.OK {
		t.Fatal(e)
	}
	if e := x.Spoil(0, 1, 0, 0, 1); e != api.ErrTwice {
		t.Errorf("%d", e)
	}
	if e := x.Spoil(0, 1, 1, 0, 1); e != api.OK {
		t.Errorf("%d", e)
	}
	wantFrames(t, x, 0, 1, "c", "b")
	for range 2 {
		if e := x.Lose(0, 1, 0); e != api.OK {
			t.Fatal(e)
		}
	}
	mustSend(t, x, 0, 1, "d", "e")
	for i := range 2 {
		if e := x.Spoil(0, 1, i, 0, 1); e != api.OK {
			t.Errorf("%d: %d", i, e)
		}
	}
}

func TestDoubleOfASpoiltFrame(t *testing.T) {
	x := mustNew(t, 2)
	mustSend(t, x, 0, 1, "ab", "z")
	if e := x.Spoil(0, 1, 0, 0, 2); e != api.OK {
		t.Fatal(e)
	}
	if e := x.Double(0, 1, 0); e != api.OK {
		t.Fatal(e)
	}
	wantFrames(t, x, 0, 1, "cb", "z", "cb")
	for _, i := range []int{0, 2} {
		if e := x.Spoil(0, 1, i, 1, 1); e != api.ErrTwice {
			t.Errorf("%d: %d", i, e)
		}
	}
	// A spoilt frame that came and is sent again is a new one.
	p, e := x.Deliver(0, 1, 0)
	if e != api.OK {
		t.Fatal(e)
	}
	mustSend(t, x, 1, 0, string(p))
	if e := x.Spoil(1, 0, 0, 0, 2); e != api.OK {
		t.Errorf("%d", e)
	}
	wantFrames(t, x, 1, 0, "ab")
}

// Whatever is asked for, a frame of layer 4 has at most one byte that was turned: so its sum tells it.
func TestSpoiltFrameIsTold(t *testing.T) {
	frame, e := seal.Seal(1, []byte("load"))
	if e != api.OK {
		t.Fatal(e)
	}
	for at := range frame {
		x := mustNew(t, 2)
		mustSend(t, x, 0, 1, string(frame))
		for _, mask := range []int{1 << (at % 8), 4, 255} {
			x.Spoil(0, 1, 0, at, mask)
			x.Double(0, 1, 0)
			x.Spoil(0, 1, 1, len(frame)-1-at, mask)
		}
		for range x.Waiting(0, 1) {
			p, _ := x.Deliver(0, 1, 0)
			turned := 0
			for i := range p {
				if p[i] != frame[i] {
					turned++
				}
			}
			if _, _, e := seal.Open(p); turned != 1 || e == api.OK {
				t.Fatalf("%d: %d turned, %d", at, turned, e)
			}
		}
	}
}

// P8.4

func TestWaitingAndLen(t *testing.T) {
	x := mustNew(t, 64)
	sum := 0
	for from := range 64 {
		for to := range 64 {
			if from == to {
				continue
			}
			for range (from*to + 1) % 4 {
				mustSend(t, x, from, to, "a")
			}
			sum += (from*to + 1) % 4
		}
	}
	for from := range 64 {
		for to := range 64 {
			want := (from*to + 1) % 4
			if from == to {
				want = 0
			}
			if n := x.Waiting(from, to); n != want {
				t.Errorf("from %d to %d: %d, want %d", from, to, n, want)
			}
		}
	}
	if x.Len() != sum {
		t.Errorf("%d, want %d", x.Len(), sum)
	}
}

// someWays are those of the net of which the tests of Ways are made.
func someWays() []api.Way {
	return []api.Way{{From: 0, To: 2, Frames: 1}, {From: 1, To: 0, Frames: 2}, {From: 1, To: 3, Frames: 1}, {From: 3, To: 0, Frames: 3}, {From: 3, To: 2, Frames: 1}}
}

func netOf(t testing.TB, n int, ways []api.Way) *Net {
	t.Helper()
	x := mustNew(t, n)
	// From the last one on, so that it is not the order in which they came.
	for _, w := range slices.Backward(ways) {
		for range w.Frames {
			mustSend(t, x, w.From, w.To, "a")
		}
	}
	return x
}

func TestWays(t *testing.T) {
	x := netOf(t, 4, someWays())
	ways := x.Ways()
	for range 3 {
		if got := slices.Collect(ways); !slices.Equal(got, someWays()) {
			t.Errorf("%v", got)
		}
	}
	full := netOf(t, 64, []api.Way{{From: 0, To: 63, Frames: 256}, {From: 63, To: 0, Frames: 256}, {From: 63, To: 62, Frames: 1}})
	want := []api.Way{{From: 0, To: 63, Frames: 256}, {From: 63, To: 0, Frames: 256}, {From: 63, To: 62, Frames: 1}}
	if got := slices.Collect(full.Ways()); !slices.Equal(got, want) {
		t.Errorf("%v", got)
	}
}

func TestWaysOfNothing(t *testing.T) {
	for name, x := range map[string]*Net{"nil": nil, "one": mustNew(t, 1), "three": mustNew(t, 3)} {
		ways := x.Ways()
		if ways == nil {
			t.Fatalf("%s: nil", name)
		}
		for w := range ways {
			t.Errorf("%s: %v", name, w)
		}
	}
}

func TestWaysAreLeft(t *testing.T) {
	ways := netOf(t, 4, someWays()).Ways()
	for n := 1; n <= len(someWays()); n++ {
		var got []api.Way
		for w := range ways {
			got = append(got, w)
			if len(got) == n {
				break
			}
		}
		if !slices.Equal(got, someWays()[:n]) {
			t.Errorf("%d: %v", n, got)
		}
	}
	// It does not go on once it was told to leave.
	calls := 0
	ways(func(api.Way) bool {
		calls++
		return false
	})
	if calls != 1 {
		t.Errorf("%d calls", calls)
	}
}

func TestWaysNested(t *testing.T) {
	ways := netOf(t, 4, someWays()).Ways()
	n := 0
	for range ways {
		for range ways {
			n++
		}
	}
	if n != 25 {
		t.Errorf("%d", n)
	}
}

func TestWaysAreAsAtTheCall(t *testing.T) {
	x := netOf(t, 4, someWays())
	ways := x.Ways()
	mustSend(t, x, 0, 1, "more")
	x.Lose(0, 2, 0)
	x.Double(1, 3, 0)
	if got := slices.Collect(ways); !slices.Equal(got, someWays()) {
		t.Errorf("%v", got)
	}
	want := []api.Way{{From: 0, To: 1, Frames: 1}, {From: 1, To: 0, Frames: 2}, {From: 1, To: 3, Frames: 2}, {From: 3, To: 0, Frames: 3}, {From: 3, To: 2, Frames: 1}}
	if got := slices.Collect(x.Ways()); !slices.Equal(got, want) {
		t.Errorf("%v", got)
	}
}

// Whoever goes over the links may empty them as he goes.
func TestWaysWhileTheNetIsChanged(t *testing.T) {
	x := netOf(t, 4, someWays())
	var got []api.Way
	for w := range x.Ways() {
		got = append(got, w)
		for other := range x.Ways() {
			for range other.Frames {
				x.Deliver(other.From, other.To, 0)
			}
		}
		mustSend(t, x, 2, 3, "more")
	}
	if !slices.Equal(got, someWays()) {
		t.Errorf("%v", got)
	}
}

func TestCloneHasTheSame(t *testing.T) {
	x := netOf(t, 4, someWays())
	if e := x.Spoil(3, 0, 1, 0, 2); e != api.OK {
		t.Fatal(e)
	}
	y := x.Clone()
	if y == x || y.Size() != 4 {
		t.Fatalf("%d", y.Size())
	}
	modelOf(t, x).compare(t, y)
	if e := y.Spoil(3, 0, 1, 0, 2); e != api.ErrTwice {
		t.Errorf("spoilt there, too: %d", e)
	}
	if e := y.Spoil(3, 0, 0, 0, 2); e != api.OK {
		t.Errorf("not spoilt there either: %d", e)
	}
}

func TestCloneSharesNothing(t *testing.T) {
	// Whatever room there is behind a link's frames, the two do not meet there.
	for n := range 9 {
		x := mustNew(t, 2)
		for i := range n + 2 {
			mustSend(t, x, 0, 1, strconv.Itoa(i))
		}
		x.Lose(0, 1, n+1)
		m := modelOf(t, x)
		y := x.Clone()
		z := y.Clone()
		change := func(a *Net, text string) {
			a.Spoil(0, 1, 0, 0, 1)
			a.Lose(0, 1, n)
			mustSend(t, a, 0, 1, text, text)
			mustSend(t, a, 1, 0, text)
		}
		change(y, "y")
		m.compare(t, x)
		m.compare(t, z)
		change(x, "x")
		m.compare(t, z)
		if p, _ := y.Peek(0, 1, n); string(p) != "y" {
			t.Errorf("%d: %q", n, p)
		}
	}
}

func TestCloneOfAFullLinkIsFull(t *testing.T) {
	y := full(t).Clone()
	if e := y.Send(0, 1, nil); e != api.ErrFull {
		t.Errorf("%d", e)
	}
}

func TestNilNet(t *testing.T) {
	var x *Net
	if x.Size() != 0 || x.Len() != 0 || x.Clone() != nil {
		t.Errorf("%d %d %v", x.Size(), x.Len(), x.Clone())
	}
	for _, from := range []int{math.MinInt, -1, 0, 1, 63, 64, math.MaxInt} {
		for _, to := range []int{math.MinInt, -1, 0, 1, 63, 64, math.MaxInt} {
			wantNoLink(t, x, from, to, api.ErrRange)
		}
	}
}

// What is handed in and what is answered is nobody's but the caller's.

func TestSentBytesAreNotKept(t *testing.T) {
	x := mustNew(t, 2)
	room := []byte("abcdef")
	if e := x.Send(0, 1, room[:3]); e != api.OK {
		t.Fatal(e)
	}
	copy(room, "zzzzzz")
	wantFrames(t, x, 0, 1, "abc")
	x.Spoil(0, 1, 0, 0, 1)
	x.Double(0, 1, 0)
	x.Deliver(0, 1, 0)
	if string(room) != "zzzzzz" {
		t.Errorf("%q", room)
	}
}

func TestAnsweredBytesAreNew(t *testing.T) {
	x := mustNew(t, 2)
	mustSend(t, x, 0, 1, "abc")
	x.Double(0, 1, 0)
	y := x.Clone()
	for range 2 {
		p, _ := x.Peek(0, 1, 0)
		for i := range p {
			p[i] = 'z'
		}
		_ = append(p, "zzzz"...)
	}
	wantFrames(t, x, 0, 1, "abc", "abc")
	p, _ := x.Deliver(0, 1, 0)
	for i := range p {
		p[i] = 'z'
	}
	wantFrames(t, x, 0, 1, "abc")
	wantFrames(t, y, 0, 1, "abc", "abc")
}

// P8.5

// Of each frame that was sent or doubled there is one that came, that was lost, or that waits.
func TestNothingIsLostUnasked(t *testing.T) {
	for seed := range 20 {
		r := rand.New(rand.NewSource(int64(seed)))
		x := mustNew(t, 3)
		in, out := map[string]int{}, map[string]int{}
		for step := range 2000 {
			from, to, i := r.Intn(3), r.Intn(3), r.Intn(6)
			p, _ := x.Peek(from, to, i)
			switch r.Intn(5) {
			case 0, 1:
				text := strconv.Itoa(from) + ">" + strconv.Itoa(to) + ":" + strconv.Itoa(step)
				if x.Send(from, to, []byte(text)) == api.OK {
					in[text]++
				}
			case 2:
				if x.Double(from, to, i) == api.OK {
					in[string(p)]++
				}
			case 3:
				if x.Lose(from, to, i) == api.OK {
					out[string(p)]++
				}
			case 4:
				if q, e := x.Deliver(from, to, i); e == api.OK {
					out[string(q)]++
				}
			}
		}
		for w := range x.Ways() {
			for _, f := range framesOf(t, x, w.From, w.To) {
				out[f]++
			}
		}
		if len(in) < 300 || len(in) != len(out) {
			t.Fatalf("seed %d: %d in, %d out", seed, len(in), len(out))
		}
		for f, n := range in {
			if out[f] != n {
				t.Fatalf("seed %d: %q: %d in, %d out", seed, f, n, out[f])
			}
		}
	}
}

// P8.6

func TestOtherLinksStayAsTheyAre(t *testing.T) {
	for _, n := range []int{2, 3, 5, 64} {
		for _, w := range []api.Way{{From: 0, To: 1}, {From: 1, To: 0}, {From: 0, To: n - 1}, {From: n - 1, To: 0}, {From: n - 1, To: n - 2}, {From: n - 2, To: n - 1}} {
			x := mustNew(t, n)
			for from := range n {
				for to := range n {
					if from != to {
						mustSend(t, x, from, to, strconv.Itoa(from), strconv.Itoa(to))
					}
				}
			}
			x.Spoil(w.From, w.To, 0, 0, 128)
			x.Double(w.From, w.To, 0)
			x.Lose(w.From, w.To, 1)
			x.Deliver(w.From, w.To, 0)
			mustSend(t, x, w.From, w.To, "a", "b")
			for from := range n {
				for to := range n {
					if from != to && (from != w.From || to != w.To) {
						wantFrames(t, x, from, to, strconv.Itoa(from), strconv.Itoa(to))
						if e := x.Spoil(from, to, 0, 0, 1); e != api.OK {
							t.Fatalf("from %d to %d: %d", from, to, e)
						}
					}
				}
			}
		}
	}
}

// All calls

// act is one call, on a net and on a model.
type act struct {
	what, from, to, i, at, mask int
	frame                       []byte
}

func (a act) onNet(x *Net) ([]byte, api.Errno) {
	switch a.what {
	case 0:
		return nil, x.Send(a.from, a.to, a.frame)
	case 1:
		return x.Deliver(a.from, a.to, a.i)
	case 2:
		return nil, x.Lose(a.from, a.to, a.i)
	case 3:
		return nil, x.Double(a.from, a.to, a.i)
	case 4:
		return nil, x.Spoil(a.from, a.to, a.i, a.at, a.mask)
	}
	return x.Peek(a.from, a.to, a.i)
}

func (a act) onModel(m *model) ([]byte, api.Errno) {
	switch a.what {
	case 0:
		return nil, m.send(a.from, a.to, a.frame)
	case 1:
		return m.deliver(a.from, a.to, a.i)
	case 2:
		_, e := m.deliver(a.from, a.to, a.i)
		return nil, e
	case 3:
		return nil, m.double(a.from, a.to, a.i)
	case 4:
		return nil, m.spoil(a.from, a.to, a.i, a.at, a.mask)
	}
	return m.peek(a.from, a.to, a.i)
}

func (a act) compare(t testing.TB, x *Net, m *model) {
	t.Helper()
	p, e := a.onNet(x)
	want, wantE := a.onModel(m)
	if e != wantE || !bytes.Equal(p, want) {
		t.Fatalf("%+v: %q %d, want %q %d", a, p, e, want, wantE)
	}
}

// smallActs are all calls with arguments of a few, some of them wrong.
func smallActs() iter.Seq[act] {
	return func(yield func(act) bool) {
		for what := range 5 {
			for _, link := range [][2]int{{0, 1}, {1, 0}, {1, 1}, {2, 0}} {
				for i := -1; i < 3; i++ {
					a := act{what: what, from: link[0], to: link[1], i: i, at: i, mask: 1, frame: []byte("ab")}
					if !yield(a) {
						return
					}
				}
			}
		}
	}
}

// Whatever three calls come one behind the other, the net is what the chapter's words make.
func TestAllSmallRuns(t *testing.T) {
	acts := slices.Collect(smallActs())
	x, m := mustNew(t, 2), &model{n: 2}
	first := act{from: 0, to: 1, frame: []byte("xyz")}
	first.compare(t, x, m)
	for _, a := range acts {
		for _, b := range acts {
			y, n := x.Clone(), m.clone()
			a.compare(t, y, n)
			b.compare(t, y, n)
			for _, c := range acts {
				z, o := y.Clone(), n.clone()
				c.compare(t, z, o)
				if z.Len() != len(o.all) {
					t.Fatalf("%+v, %+v, %+v: %d, want %d", a, b, c, z.Len(), len(o.all))
				}
			}
			n.compare(t, y)
		}
	}
	m.compare(t, x)
}

func randomAct(r *rand.Rand, n int) act {
	frame := make([]byte, r.Intn(4))
	for i := range frame {
		frame[i] = byte(r.Intn(256))
	}
	a := act{what: r.Intn(6), from: r.Intn(n), to: r.Intn(n), i: r.Intn(8), at: r.Intn(4), mask: r.Intn(300) - 20, frame: frame}
	switch r.Intn(20) {
	case 0:
		a.from = r.Int() - r.Int()
	case 1:
		a.to = n
	case 2:
		a.i = r.Int() - r.Int()
	case 3:
		a.at = r.Int() - r.Int()
	case 4:
		a.frame = make([]byte, api.MaxLoad+9+r.Intn(2))
	}
	return a
}

func TestRandomRuns(t *testing.T) {
	for seed := range 60 {
		r := rand.New(rand.NewSource(int64(seed)))
		n := 1 + r.Intn(4)
		x, m := mustNew(t, n), &model{n: n}
		for range 400 {
			randomAct(r, n).compare(t, x, m)
			if r.Intn(50) == 0 {
				m.compare(t, x)
				x = x.Clone()
			}
		}
		m.compare(t, x)
	}
}

// A link that is full now and then, so that all that hangs on its room is asked, too.
func TestRandomRunsOnAFullLink(t *testing.T) {
	for seed := range 10 {
		r := rand.New(rand.NewSource(int64(seed)))
		x := full(t)
		m := modelOf(t, x)
		for range 300 {
			a := randomAct(r, 2)
			a.from, a.to, a.i = 0, 1, r.Intn(api.MaxBag+2)
			a.compare(t, x, m)
		}
		m.compare(t, x)
	}
}
