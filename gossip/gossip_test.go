package gossip

import (
	"bytes"
	"encoding/hex"
	"math"
	"math/rand"
	"slices"
	"strconv"
	"strings"
	"testing"

	"topiary/api"
	"topiary/change"
	"topiary/clock"
	"topiary/ident"
	"topiary/oplog"
	"topiary/seal"
	"topiary/wire"
)

func mustParse(t testing.TB, text string) api.Change {
	t.Helper()
	c, e := change.Parse(text)
	if e != api.OK {
		t.Fatalf("%s: %d", text, e)
	}
	return c
}

func mustParseAll(t testing.TB, texts ...string) []api.Change {
	t.Helper()
	var out []api.Change
	for _, text := range texts {
		out = append(out, mustParse(t, text))
	}
	return out
}

func mustNew(t testing.TB, room int) *oplog.Log {
	t.Helper()
	l, e := oplog.New(room)
	if e != api.OK || l == nil {
		t.Fatalf("New(%d): %v %d", room, l, e)
	}
	return l
}

func mustAdd(t testing.TB, l *oplog.Log, c api.Change) {
	t.Helper()
	if e := l.Add(c); e != api.OK {
		t.Fatalf("Add(%s): %d", textOf(c), e)
	}
}

// logOf is a log with these changes, each of which must be taken.
func logOf(t testing.TB, room int, texts ...string) *oplog.Log {
	t.Helper()
	l := mustNew(t, room)
	for _, c := range mustParseAll(t, texts...) {
		mustAdd(t, l, c)
	}
	return l
}

func textOf(c api.Change) string {
	text, e := change.Text(c)
	if e != api.OK {
		return "wrong change, error " + strconv.Itoa(int(e))
	}
	return text
}

func textsOf(l []api.Change) string {
	var out []string
	for _, c := range l {
		out = append(out, textOf(c))
	}
	return strings.Join(out, "\n")
}

// stateOf is all that can be told of a log.
func stateOf(l *oplog.Log) string {
	return strconv.Itoa(l.Room()) + "\n" + textsOf(l.All())
}

func mustWrite(t testing.TB, f api.Frame) []byte {
	t.Helper()
	p, e := wire.Write(f)
	if e != api.OK {
		t.Fatalf("Write(%v): %d", f, e)
	}
	return p
}

func digest(t testing.TB, numbers ...int) []byte {
	t.Helper()
	return mustWrite(t, api.Frame{Kind: api.FDigest, From: 5, Clock: numbers})
}

func answer(t testing.TB, more bool, texts ...string) []byte {
	t.Helper()
	return mustWrite(t, api.Frame{Kind: api.FAnswer, From: 5, More: more, Changes: mustParseAll(t, texts...)})
}

func sealed(t testing.TB, kind int, load string) []byte {
	t.Helper()
	b, err := hex.DecodeString(strings.ReplaceAll(load, " ", ""))
	if err != nil {
		t.Fatal(err)
	}
	p, e := seal.Seal(kind, b)
	if e != api.OK {
		t.Fatal(e)
	}
	return p
}

const (
	first  = `create 1.0 1 - root - p`
	second = `text 2.1 1 1 1.0 "a"`
	third  = `set 3.0 2 1,1 1.0 id "x"`
	fourth = `create 4.2 1 2,1 1.0 - b`
)

// wrong is bytes that are no frame of the kind that is asked for, and the error of these.
type wrong struct {
	name  string
	bytes []byte
	want  api.Errno
}

// wrongFrames are bytes that wire.Read refuses, or that are a frame of another kind than this one.
func wrongFrames(t testing.TB, kind int) []wrong {
	t.Helper()
	frames := []api.Frame{
		{Kind: api.FBatch, From: 1, Changes: mustParseAll(t, first)},
		{Kind: api.FDigest, From: 1, Clock: []int{1}},
		{Kind: api.FDigest, From: 1},
		{Kind: api.FAnswer, From: 1, Clock: []int{1}, Changes: mustParseAll(t, first)},
		{Kind: api.FAnswer, From: 1},
	}
	out := []wrong{
		{"nothing", nil, api.ErrForm},
		{"no bytes", []byte{}, api.ErrForm},
		{"few bytes", []byte{byte(kind), 0, 0, 0, 0, 1, 2, 3}, api.ErrForm},
		{"an empty load", sealed(t, kind, ""), api.ErrForm},
		{"a load with a byte behind it", sealed(t, kind, "00 00 00 00 00"), api.ErrForm},
		{"a From that is no replica", sealed(t, kind, "40 00 00 00"), api.ErrForm},
		{"a clock that is not trimmed", sealed(t, kind, "00 01 00 00 00"), api.ErrForm},
		{"a More that is none", sealed(t, kind, "00 00 02 00"), api.ErrForm},
		{"a wrong change", sealed(t, kind, "00 00 00 01 01 01"), api.ErrForm},
		{"a kind that no frame has", sealed(t, 4, "00 00 00 00"), api.ErrForm},
		{"a digest with More", sealed(t, api.FDigest, "00 00 01 00"), api.ErrForm},
		{"a batch without changes", sealed(t, api.FBatch, "00 00 00 00"), api.ErrForm},
	}
	for _, f := range frames {
		p := mustWrite(t, f)
		name := "frame of kind " + strconv.Itoa(f.Kind)
		if f.Kind != kind {
			out = append(out, wrong{name, p, api.ErrForm})
		}
		turned := slices.Clone(p)
		turned[len(turned)-1] ^= 1
		out = append(out,
			wrong{name + ", its sum turned", turned, api.ErrSum},
			wrong{name + ", cut", p[:len(p)-1], api.ErrForm},
			wrong{name + ", longer", append(slices.Clone(p), 0), api.ErrForm})
	}
	return out
}

func wrongReplicas() []int {
	return []int{-1, math.MinInt, -64, api.MaxReplicas, 65, 256, 1 << 32, math.MaxInt}
}

func wrongMosts() []int {
	return []int{0, -1, math.MinInt, api.MaxBatch + 1, 128, 1<<32 + 1, math.MaxInt}
}

// P10.1

func TestAskBytes(t *testing.T) {
	l := logOf(t, 9, first, second, third)
	for want, self := range map[string]int{"00 02 02 01 00 00": 0, "02 02 02 01 00 00": 2, "3f 02 02 01 00 00": 63} {
		p, e := Ask(l, self)
		if e != api.OK || !bytes.Equal(p, sealed(t, api.FDigest, want)) {
			t.Errorf("Ask(%d): %x %d, want the load %s", self, p, e, want)
		}
	}
	gap := logOf(t, 9, `create 1.2 1 - root - p`)
	if p, e := Ask(gap, 1); e != api.OK || !bytes.Equal(p, sealed(t, api.FDigest, "01 03 00 00 01 00 00")) {
		t.Errorf("of replica 2 alone: %x %d", p, e)
	}
}

func TestAskOfEachReplica(t *testing.T) {
	for _, l := range []*oplog.Log{nil, mustNew(t, 1), logOf(t, 1, first), logOf(t, 4, first, second, third, fourth)} {
		for self := range api.MaxReplicas {
			p, e := Ask(l, self)
			want := mustWrite(t, api.Frame{Kind: api.FDigest, From: self, Clock: l.Clock()})
			if e != api.OK || !bytes.Equal(p, want) {
				t.Errorf("Ask(%s, %d): %x %d, want %x", stateOf(l), self, p, e, want)
			}
		}
	}
}

func TestAskRefuses(t *testing.T) {
	for _, l := range []*oplog.Log{nil, mustNew(t, 1), logOf(t, 9, first)} {
		before := stateOf(l)
		for _, self := range wrongReplicas() {
			if p, e := Ask(l, self); e != api.ErrRange || len(p) != 0 {
				t.Errorf("Ask(%d): %x %d", self, p, e)
			}
		}
		if stateOf(l) != before {
			t.Errorf("the log was changed: %s", stateOf(l))
		}
	}
}

func TestAskFollowsTheLog(t *testing.T) {
	l := mustNew(t, 9)
	for i, text := range []string{first, second, third} {
		mustAdd(t, l, mustParse(t, text))
		want := [][]int{{1}, {1, 1}, {2, 1}}[i]
		p, _ := Ask(l, 7)
		if f, e := wire.Read(p); e != api.OK || !slices.Equal(f.Clock, want) || f.From != 7 {
			t.Errorf("%d changes: %v %d", i+1, f, e)
		}
	}
}

// P10.2

func TestTellBytes(t *testing.T) {
	l := logOf(t, 9, first, second)
	create := "0b 01 01 00 01 00 00 00 00 00 01 70"
	text := "0a 05 02 01 01 01 01 01 00 01 61"
	cases := []struct {
		numbers []int
		most    int
		want    string
	}{
		{nil, 64, "02 02 01 01 00 02 " + create + text},
		{nil, 2, "02 02 01 01 00 02 " + create + text},
		{nil, 1, "02 02 01 01 01 01 " + create},
		{[]int{1}, 1, "02 02 01 01 00 01 " + text},
		{[]int{0, 1}, 1, "02 02 01 01 00 01 " + create},
		{[]int{1, 1}, 1, "02 02 01 01 00 00"},
	}
	for _, c := range cases {
		p, e := Tell(l, 2, digest(t, c.numbers...), c.most)
		if e != api.OK || !bytes.Equal(p, sealed(t, api.FAnswer, c.want)) {
			t.Errorf("Tell of %v by %d: %x %d, want the load %s", c.numbers, c.most, p, e, c.want)
		}
	}
}

// chain is a log of n changes, each one of the replica behind the last one's, of so many.
func chain(t testing.TB, room, n, replicas int) *oplog.Log {
	t.Helper()
	l := mustNew(t, room)
	for i := range n {
		r := i % replicas
		known := l.Clock()
		c := api.Change{At: api.Stamp{Count: i + 1, Replica: r}, Seq: clock.At(known, r) + 1, Deps: known, Kind: api.KText, Value: strconv.Itoa(i)}
		mustAdd(t, l, c)
	}
	return l
}

func TestTellMoreAtTheEdges(t *testing.T) {
	for _, n := range []int{0, 1, 2, 3, 63, 64, 65, 66, 130} {
		l := chain(t, 130, n, 3)
		for most := 1; most <= api.MaxBatch; most++ {
			p, e := Tell(l, 9, digest(t), most)
			f, g := wire.Read(p)
			if e != api.OK || g != api.OK || f.Kind != api.FAnswer || f.From != 9 || !slices.Equal(f.Clock, l.Clock()) {
				t.Fatalf("%d changes by %d: %v %d %d", n, most, f, e, g)
			}
			if f.More != (n > most) || textsOf(f.Changes) != textsOf(l.All()[:min(n, most)]) {
				t.Errorf("%d changes by %d: more %v,\n%s", n, most, f.More, textsOf(f.Changes))
			}
		}
	}
}

// lacking are the changes of l that are not within known, as the chapters' words say it.
func lacking(l *oplog.Log, known []int) []api.Change {
	var out []api.Change
	for _, c := range l.All() {
		if r := c.At.Replica; r >= len(known) || c.Seq > known[r] {
			out = append(out, c)
		}
	}
	return out
}

func TestTellWhatIsLacking(t *testing.T) {
	l := chain(t, 20, 12, 3)
	for a := range 6 {
		for b := range 6 {
			for c := range 6 {
				known := clock.Trim([]int{a, b, c})
				for _, most := range []int{1, 2, 5, 11, 12, 64} {
					want := lacking(l, known)
					p, e := Tell(l, 0, digest(t, known...), most)
					f, _ := wire.Read(p)
					if e != api.OK || f.More != (len(want) > most) || textsOf(f.Changes) != textsOf(want[:min(most, len(want))]) {
						t.Fatalf("Tell of %v by %d: %v %d", known, most, f, e)
					}
				}
			}
		}
	}
}

func TestTellOfAnyDigest(t *testing.T) {
	l := logOf(t, 9, first, second, third)
	most := make([]int, api.MaxReplicas)
	for i := range most {
		most[i] = api.MaxCount
	}
	last := make([]int, api.MaxReplicas)
	last[63] = api.MaxCount
	for _, known := range [][]int{most, last, {api.MaxCount}, {0, 0, 0, 7}} {
		p, e := Tell(l, 1, digest(t, known...), 64)
		f, _ := wire.Read(p)
		if e != api.OK || textsOf(f.Changes) != textsOf(lacking(l, known)) || f.More || !slices.Equal(f.Clock, []int{2, 1}) {
			t.Errorf("Tell of %v: %v %d", known, f, e)
		}
	}
}

// Whoever asks may have any number: that of the one who answers, too.
func TestTellWhoeverAsks(t *testing.T) {
	l := logOf(t, 9, first, second)
	want, _ := Tell(l, 0, mustWrite(t, api.Frame{Kind: api.FDigest, From: 1}), 1)
	for from := range api.MaxReplicas {
		p, e := Tell(l, 0, mustWrite(t, api.Frame{Kind: api.FDigest, From: from}), 1)
		if e != api.OK || !bytes.Equal(p, want) {
			t.Errorf("asked by %d: %x %d", from, p, e)
		}
	}
	for self := range api.MaxReplicas {
		p, e := Tell(l, self, digest(t), 1)
		if f, _ := wire.Read(p); e != api.OK || f.From != self {
			t.Errorf("told by %d: %v %d", self, f, e)
		}
	}
}

func TestTellOfANilLog(t *testing.T) {
	for _, l := range []*oplog.Log{nil, mustNew(t, 1)} {
		for _, known := range [][]int{nil, {1, 0, 3}} {
			p, e := Tell(l, 3, digest(t, known...), 1)
			if e != api.OK || !bytes.Equal(p, sealed(t, api.FAnswer, "03 00 00 00")) {
				t.Errorf("Tell of %v: %x %d", known, p, e)
			}
		}
	}
}

func wantTellRefused(t testing.TB, name string, l *oplog.Log, self int, ask []byte, most int, want api.Errno) {
	t.Helper()
	before := stateOf(l)
	if p, e := Tell(l, self, ask, most); e != want || len(p) != 0 {
		t.Errorf("%s: Tell(%d, %x, %d): %x %d, want %d", name, self, ask, most, p, e, want)
	}
	if stateOf(l) != before {
		t.Errorf("%s: the log was changed: %s", name, stateOf(l))
	}
}

func TestTellRefuses(t *testing.T) {
	for _, l := range []*oplog.Log{nil, mustNew(t, 1), logOf(t, 9, first, second)} {
		for _, ask := range [][]byte{digest(t), digest(t, 1), nil, {1}, answer(t, false)} {
			for _, self := range wrongReplicas() {
				wantTellRefused(t, "self", l, self, ask, 1, api.ErrRange)
				wantTellRefused(t, "self and most", l, self, ask, 0, api.ErrRange)
			}
			for _, most := range wrongMosts() {
				wantTellRefused(t, "most", l, 0, ask, most, api.ErrRange)
			}
		}
		for _, w := range wrongFrames(t, api.FDigest) {
			wantTellRefused(t, w.name, l, 0, w.bytes, 1, w.want)
			wantTellRefused(t, w.name, l, 63, w.bytes, 64, w.want)
			wantTellRefused(t, w.name, l, 64, w.bytes, 64, api.ErrRange)
			wantTellRefused(t, w.name, l, 63, w.bytes, 65, api.ErrRange)
		}
	}
}

// longestLog has the changes of the most bytes of which a log can be: a clock of all replicas, the longest names and texts.
func longestLog(t testing.TB) *oplog.Log {
	t.Helper()
	l := mustNew(t, 200)
	const ahead = api.MaxCount - 100
	for r := range api.MaxReplicas {
		mustAdd(t, l, api.Change{At: api.Stamp{Count: ahead, Replica: r}, Seq: 1, Kind: api.KText})
	}
	for i := range api.MaxBatch {
		known := l.Clock()
		mustAdd(t, l, api.Change{
			At: api.Stamp{Count: ahead + 1 + i, Replica: 63}, Seq: known[63] + 1, Deps: known, Kind: api.KSet,
			Name: strings.Repeat("n", api.MaxName), Value: strings.Repeat("v", api.MaxValue),
		})
	}
	return l
}

func TestTheLongestAnswer(t *testing.T) {
	l := longestLog(t)
	known := make([]int, api.MaxReplicas)
	for i := range known {
		known[i] = 1
	}
	p, e := Tell(l, 63, digest(t, known...), 64)
	f, _ := wire.Read(p)
	if e != api.OK || len(f.Changes) != 64 || f.More {
		t.Fatalf("%d changes, %d", len(f.Changes), e)
	}
	to := mustNew(t, 200)
	if n, e := Sync(l, to, 64); n != 4 || e != api.OK || textsOf(to.All()) != textsOf(l.All()) {
		t.Errorf("Sync: %d %d", n, e)
	}
}

// P10.3

func wantTake(t testing.TB, name string, l *oplog.Log, p []byte, added int, more bool, want api.Errno) {
	t.Helper()
	if n, m, e := Take(l, p); n != added || m != more || e != want {
		t.Errorf("%s: Take: %d %v %d, want %d %v %d", name, n, m, e, added, more, want)
	}
}

func wantLog(t testing.TB, name string, l *oplog.Log, texts ...string) {
	t.Helper()
	if got := textsOf(l.All()); got != strings.Join(texts, "\n") {
		t.Errorf("%s: the log has\n%s\nwant\n%s", name, got, strings.Join(texts, "\n"))
	}
}

func TestTakeAdds(t *testing.T) {
	for _, more := range []bool{false, true} {
		l := mustNew(t, 9)
		wantTake(t, "none", l, answer(t, more), 0, more, api.OK)
		wantLog(t, "none", l)
		wantTake(t, "two", l, answer(t, more, first, second), 2, more, api.OK)
		wantLog(t, "two", l, first, second)
		wantTake(t, "once more", l, answer(t, more, first, second), 0, more, api.OK)
		wantTake(t, "one that is new", l, answer(t, more, first, third, second), 1, more, api.OK)
		wantLog(t, "three", l, first, second, third)
	}
}

func TestTakeAddsFromTheFirstOneOn(t *testing.T) {
	l := mustNew(t, 9)
	late := `create 9.1 1 - root - p`
	early := `create 1.0 1 - root - p`
	wantTake(t, "not in their order", l, answer(t, true, late, early), 2, true, api.OK)
	wantLog(t, "not in their order", l, early, late)
}

func TestTakePassesOverWhatIsThere(t *testing.T) {
	l := logOf(t, 9, first, second)
	wantTake(t, "ahead", l, answer(t, true, first, second, third), 1, true, api.OK)
	wantTake(t, "in between", l, answer(t, true, third, first, fourth, second), 1, true, api.OK)
	wantTake(t, "within one answer", l, answer(t, false, fourth, fourth, first, first), 0, false, api.OK)
	wantLog(t, "at the end", l, first, second, third, fourth)
	twice := mustNew(t, 1)
	wantTake(t, "twice in one answer", twice, answer(t, true, first, first, first), 1, true, api.OK)
}

func TestTakeEndsAtTheFirstError(t *testing.T) {
	other := `create 1.0 1 - root - b`
	sameSeq := `create 2.0 1 - root - b`
	cases := []struct {
		name    string
		room    int
		has     []string
		answer  []string
		added   int
		want    api.Errno
		outcome []string
	}{
		{"another one of that stamp, first", 9, []string{first}, []string{other, second}, 0, api.ErrState, []string{first}},
		{"another one of that stamp, behind one", 9, nil, []string{first, other, second}, 1, api.ErrState, []string{first}},
		{"another one of that number", 9, []string{first}, []string{second, sameSeq, third}, 1, api.ErrState, []string{first, second}},
		{"a number too far", 9, []string{first}, []string{third, second}, 0, api.ErrNone, []string{first}},
		{"one on which it hangs is missing, last", 9, nil, []string{first, third}, 1, api.ErrNone, []string{first}},
		{"what it hangs on comes behind it", 9, nil, []string{second, first}, 0, api.ErrNone, nil},
		{"a stamp that is not within its Deps", 9, []string{first}, []string{`text 2.1 1 - 1.0 "a"`, `create 5.3 1 - root - p`}, 0, api.ErrForm, []string{first}},
		{"not behind what it hangs on", 9, nil, []string{`create 7.0 1 - root - p`, `create 6.1 1 1 root - p`}, 1, api.ErrForm, []string{`create 7.0 1 - root - p`}},
		{"no room", 1, []string{first}, []string{second}, 0, api.ErrFull, []string{first}},
		{"no room behind one", 2, nil, []string{first, second, third}, 2, api.ErrFull, []string{first, second}},
		{"no room, behind those that are there", 2, []string{first, second}, []string{first, second, third, first}, 0, api.ErrFull, []string{first, second}},
		{"room for all but wrong ones", 2, []string{first, second}, []string{other, third}, 0, api.ErrState, []string{first, second}},
		{"the first error of two", 2, nil, []string{first, third, other}, 1, api.ErrNone, []string{first}},
		{"one that is there, then an error", 9, []string{first}, []string{first, second, other}, 1, api.ErrState, []string{first, second}},
	}
	for _, c := range cases {
		for _, more := range []bool{false, true} {
			l := logOf(t, c.room, c.has...)
			wantTake(t, c.name, l, answer(t, more, c.answer...), c.added, false, c.want)
			wantLog(t, c.name, l, c.outcome...)
			if l.Room() != c.room {
				t.Errorf("%s: room %d", c.name, l.Room())
			}
		}
	}
}

func TestTakeIntoAFullLog(t *testing.T) {
	l := logOf(t, 2, first, second)
	wantTake(t, "what is there", l, answer(t, true, first, second), 0, true, api.OK)
	wantTake(t, "nothing", l, answer(t, false), 0, false, api.OK)
	wantTake(t, "one more", l, answer(t, true, third), 0, false, api.ErrFull)
	wantLog(t, "at the end", l, first, second)
}

func TestTakeIntoANilLog(t *testing.T) {
	wantTake(t, "none", nil, answer(t, false), 0, false, api.OK)
	wantTake(t, "none, and more", nil, answer(t, true), 0, true, api.OK)
	wantTake(t, "one", nil, answer(t, true, first), 0, false, api.ErrFull)
	wantTake(t, "one that hangs on another one", nil, answer(t, true, second), 0, false, api.ErrNone)
}

func TestTakeRefuses(t *testing.T) {
	for _, l := range []*oplog.Log{nil, mustNew(t, 1), logOf(t, 1, first), logOf(t, 9, first)} {
		before := stateOf(l)
		for _, w := range wrongFrames(t, api.FAnswer) {
			wantTake(t, w.name, l, w.bytes, 0, false, w.want)
			if stateOf(l) != before {
				t.Fatalf("%s: the log was changed: %s", w.name, stateOf(l))
			}
		}
	}
}

// An answer's clock and its From say nothing of what is added.
func TestTakeWhoeverTells(t *testing.T) {
	for from := range api.MaxReplicas {
		for _, known := range [][]int{nil, {9}, {0, 0, api.MaxCount}} {
			l := mustNew(t, 9)
			f := api.Frame{Kind: api.FAnswer, From: from, Clock: known, Changes: mustParseAll(t, first, second)}
			wantTake(t, "any head", l, mustWrite(t, f), 2, false, api.OK)
			wantLog(t, "any head", l, first, second)
		}
	}
}

func TestTakeTheMost(t *testing.T) {
	from := chain(t, 64, 64, 64)
	to := mustNew(t, 64)
	p := mustWrite(t, api.Frame{Kind: api.FAnswer, More: true, Changes: from.All()})
	wantTake(t, "64 changes", to, p, 64, true, api.OK)
	if stateOf(to) != stateOf(from) {
		t.Errorf("the log has %s", stateOf(to))
	}
}

// P10.4

func wantSync(t testing.TB, name string, from, to *oplog.Log, most, frames int, want api.Errno) {
	t.Helper()
	if n, e := Sync(from, to, most); n != frames || e != want {
		t.Errorf("%s: Sync by %d: %d %d, want %d %d", name, most, n, e, frames, want)
	}
}

func TestExample(t *testing.T) {
	from, to := logOf(t, 9, first, second, third), mustNew(t, 9)
	wantSync(t, "three changes", from, to, 2, 4, api.OK)
	wantLog(t, "three changes", to, first, second, third)
	wantSync(t, "once more", from, to, 2, 2, api.OK)
	wantLog(t, "once more", to, first, second, third)
	ask, _ := Ask(to, 0)
	wantTake(t, "a digest", to, ask, 0, false, api.ErrForm)
}

func TestSyncRefuses(t *testing.T) {
	logs := []*oplog.Log{nil, mustNew(t, 1), logOf(t, 9, first, second)}
	for _, from := range logs {
		for _, to := range logs {
			before := stateOf(from) + stateOf(to)
			for _, most := range wrongMosts() {
				wantSync(t, "wrong most", from, to, most, 0, api.ErrRange)
			}
			if stateOf(from)+stateOf(to) != before {
				t.Errorf("a log was changed: %s", stateOf(to))
			}
		}
	}
}

func TestSyncOfNilLogs(t *testing.T) {
	wantSync(t, "both", nil, nil, 1, 2, api.OK)
	wantSync(t, "from nil to an empty one", nil, mustNew(t, 1), 64, 2, api.OK)
	wantSync(t, "from an empty one to nil", mustNew(t, 1), nil, 64, 2, api.OK)
	l := logOf(t, 2, first, second)
	wantSync(t, "from nil", nil, l, 1, 2, api.OK)
	wantSync(t, "to nil", l, nil, 1, 2, api.ErrFull)
	wantSync(t, "to nil", l, nil, 64, 2, api.ErrFull)
	wantLog(t, "at the end", l, first, second)
}

func TestSyncWithItself(t *testing.T) {
	l := logOf(t, 2, first, second)
	wantSync(t, "itself", l, l, 1, 2, api.OK)
	wantSync(t, "its clone", l, l.Clone(), 1, 2, api.OK)
	wantLog(t, "itself", l, first, second)
}

func TestSyncGoesOneWay(t *testing.T) {
	from, to := logOf(t, 9, first), logOf(t, 9, first, second, third)
	before := stateOf(from)
	wantSync(t, "from one with less", from, to, 1, 2, api.OK)
	wantLog(t, "to", to, first, second, third)
	if stateOf(from) != before {
		t.Errorf("from was changed: %s", stateOf(from))
	}
	wantSync(t, "back", to, from, 1, 4, api.OK)
	wantLog(t, "from", from, first, second, third)
}

func TestSyncCountsTheRoundThatErrs(t *testing.T) {
	all := chain(t, 10, 10, 3)
	for room := 1; room <= 11; room++ {
		for most := 1; most <= 12; most++ {
			to := mustNew(t, room)
			frames, want := 2*((10+most-1)/most), api.OK
			if room < 10 {
				frames, want = 2*(room/most+1), api.ErrFull
			}
			wantSync(t, "room for "+strconv.Itoa(room), all, to, most, frames, want)
			if got := textsOf(to.All()); got != textsOf(all.All()[:min(room, 10)]) {
				t.Errorf("room %d, most %d: the log has\n%s", room, most, got)
			}
		}
	}
}

func TestSyncOfLogsThatDoNotFit(t *testing.T) {
	cases := []struct {
		name     string
		from, to []string
		most     int
		frames   int
		want     api.Errno
		outcome  []string
	}{
		{"unlike ones of one stamp, with another number", []string{first, `text 2.0 2 1 1.0 "a"`}, []string{`create 2.0 1 - root - p`}, 1, 2, api.ErrState, []string{`create 2.0 1 - root - p`}},
		{"another one's beside unlike ones of one place", []string{first, `create 1.1 1 - root - p`}, []string{`create 1.0 1 - root - b`}, 1, 2, api.OK, []string{`create 1.0 1 - root - b`, `create 1.1 1 - root - p`}},
		{"a stamp that is not there", []string{first, second}, []string{`create 2.0 1 - root - p`}, 64, 2, api.ErrForm, []string{`create 2.0 1 - root - p`}},
		{"not behind what it hangs on", []string{first, second}, []string{`create 8.0 1 - root - p`}, 64, 2, api.ErrForm, []string{`create 8.0 1 - root - p`}},
		{"an error in the third round", []string{`create 1.2 1 - root - p`, `create 2.2 2 0,0,1 root - p`, `create 3.0 1 0,0,2 root - p`, `text 4.1 1 1 3.0 "a"`}, []string{`create 1.0 1 - root - b`}, 1, 6, api.ErrForm, []string{`create 1.0 1 - root - b`, `create 1.2 1 - root - p`, `create 2.2 2 0,0,1 root - p`}},
		{"unlike ones of one place alone", []string{first}, []string{`create 1.0 1 - root - b`}, 64, 2, api.OK, []string{`create 1.0 1 - root - b`}},
	}
	for _, c := range cases {
		from, to := logOf(t, 9, c.from...), logOf(t, 9, c.to...)
		before := stateOf(from)
		wantSync(t, c.name, from, to, c.most, c.frames, c.want)
		wantLog(t, c.name, to, c.outcome...)
		if stateOf(from) != before {
			t.Errorf("%s: from was changed: %s", c.name, stateOf(from))
		}
	}
}

// plainSync is an exchange in its plainest form: no frames, each round's changes by the words' own text.
func plainSync(from, to *oplog.Log, most int) (int, api.Errno) {
	for rounds := 1; ; rounds++ {
		all := lacking(from, to.Clock())
		for _, c := range all[:min(most, len(all))] {
			if e := to.Add(c); e != api.OK && e != api.ErrTwice {
				return 2 * rounds, e
			}
		}
		if len(all) <= most {
			return 2 * rounds, api.OK
		}
	}
}

// anyEdit is what the replica r may do next.
func anyEdit(t testing.TB, x *rand.Rand, l *oplog.Log, r int) api.Change {
	t.Helper()
	at, e := ident.Next(l.Last()+x.Intn(2), r)
	if e != api.OK {
		t.Fatal(e)
	}
	known, all := l.Clock(), l.All()
	c := api.Change{At: at, Seq: clock.At(known, r) + 1, Deps: known, Kind: api.KText, Value: strconv.Itoa(x.Intn(99))}
	if len(all) > 0 {
		c.Node = all[x.Intn(len(all))].At
	}
	if x.Intn(2) == 0 {
		c.Kind, c.Value, c.Name = api.KCreate, "", "p"
		c.Parent, c.Node = c.Node, at
	}
	return c
}

// history is what some replicas did that heard of one another now and then, by Sync: their logs, each with room for all.
func history(t testing.TB, x *rand.Rand, replicas, changes int) []*oplog.Log {
	t.Helper()
	var logs []*oplog.Log
	for range replicas {
		logs = append(logs, mustNew(t, changes))
	}
	for range changes {
		r := x.Intn(replicas)
		if x.Intn(3) == 0 {
			if _, e := Sync(logs[x.Intn(replicas)], logs[r], 1+x.Intn(9)); e != api.OK {
				t.Fatal(e)
			}
		}
		mustAdd(t, logs[r], anyEdit(t, x, logs[r], r))
	}
	return logs
}

func TestSyncAgainstThePlainOne(t *testing.T) {
	for seed := range int64(60) {
		x := rand.New(rand.NewSource(seed))
		// Of two histories, in which the same stamps and numbers stand for other changes: so that errors come, too.
		logs := append(history(t, x, 3, 25), history(t, x, 3, 25)...)
		for range 60 {
			from, source := logs[x.Intn(6)], logs[x.Intn(6)]
			to := mustNew(t, 1+x.Intn(40))
			for _, c := range source.All()[:x.Intn(source.Len()+1)] {
				to.Add(c)
			}
			plain, before, most := to.Clone(), stateOf(from), 1+x.Intn(12)
			n, e := Sync(from, to, most)
			m, f := plainSync(from, plain, most)
			if n != m || e != f || stateOf(to) != stateOf(plain) || stateOf(from) != before {
				t.Fatalf("seed %d: Sync: %d %d, want %d %d", seed, n, e, m, f)
			}
		}
	}
}

// P10.5

// both are the changes of two logs, in order.
func both(a, b *oplog.Log) []api.Change {
	out := append(a.All(), lacking(b, a.Clock())...)
	slices.SortFunc(out, func(c, d api.Change) int { return ident.Compare(c.At, d.At) })
	return out
}

func TestSyncBringsAllAndCountsFrames(t *testing.T) {
	for seed := range int64(30) {
		x := rand.New(rand.NewSource(seed))
		logs := history(t, x, 4, 50)
		for most := 1; most <= api.MaxBatch; most++ {
			from, to := logs[x.Intn(4)], logs[x.Intn(4)].Clone()
			n := len(lacking(from, to.Clock()))
			frames := 2 * max(1, (n+most-1)/most)
			want, known := textsOf(both(to, from)), to.Clock()
			merged, _ := clock.Merge(known, from.Clock())
			wantSync(t, "seed "+strconv.Itoa(int(seed)), from, to, most, frames, api.OK)
			if textsOf(to.All()) != want || !slices.Equal(to.Clock(), merged) {
				t.Fatalf("seed %d, most %d: the log has\n%s\nwant\n%s", seed, most, textsOf(to.All()), want)
			}
			wantSync(t, "once more", from, to, most, 2, api.OK)
		}
	}
}

func TestSyncOfTheLongestLog(t *testing.T) {
	from := chain(t, api.MaxChanges, api.MaxChanges, 5)
	for most, frames := range map[int]int{1: 8192, 63: 132, 64: 128} {
		to := mustNew(t, api.MaxChanges)
		wantSync(t, "4096 changes", from, to, most, frames, api.OK)
		if textsOf(to.All()) != textsOf(from.All()) {
			t.Errorf("most %d: not all came", most)
		}
	}
	to := mustNew(t, api.MaxChanges-1)
	wantSync(t, "room for one less", from, to, 64, 128, api.ErrFull)
	if to.Len() != api.MaxChanges-1 {
		t.Errorf("%d changes", to.Len())
	}
}

func TestAllGetThereByExchanges(t *testing.T) {
	for seed := range int64(20) {
		logs := history(t, rand.New(rand.NewSource(seed)), 5, 60)
		for range 2 {
			for i := range logs {
				if _, e := Sync(logs[i], logs[(i+1)%len(logs)], 7); e != api.OK {
					t.Fatal(e)
				}
			}
		}
		for _, l := range logs {
			if l.Len() != 60 || stateOf(l) != stateOf(logs[0]) {
				t.Errorf("seed %d: %d changes", seed, l.Len())
			}
		}
	}
}

// P10.6

// mustRound asks, tells and takes, and tells whether there are more.
func mustRound(t testing.TB, from, to *oplog.Log, most int) bool {
	t.Helper()
	ask, e := Ask(to, 1)
	if e != api.OK {
		t.Fatal(e)
	}
	p, e := Tell(from, 0, ask, most)
	if e != api.OK {
		t.Fatal(e)
	}
	_, more, e := Take(to, p)
	if e != api.OK {
		t.Fatal(e)
	}
	return more
}

func TestBrokenOffBehindAnyRound(t *testing.T) {
	from := chain(t, 20, 20, 4)
	for most := 1; most <= 21; most++ {
		for rounds := 0; rounds*most < 20; rounds++ {
			to := mustNew(t, 20)
			for range rounds {
				if !mustRound(t, from, to, most) {
					t.Fatalf("no more behind %d by %d", rounds, most)
				}
			}
			left := 20 - rounds*most
			for again := 1; again <= 21; again += 5 {
				anew := to.Clone()
				wantSync(t, "begun anew", from, anew, again, 2*((left+again-1)/again), api.OK)
				if stateOf(anew) != stateOf(from) {
					t.Errorf("%d rounds by %d, then by %d: the log has %s", rounds, most, again, stateOf(anew))
				}
			}
		}
	}
}

func TestBrokenOffWithinAnAnswer(t *testing.T) {
	from := chain(t, 20, 20, 4)
	for room := 1; room < 20; room++ {
		small := mustNew(t, room)
		if _, e := Sync(from, small, 7); e != api.ErrFull {
			t.Fatalf("room %d: %d", room, e)
		}
		to := mustNew(t, 20)
		wantSync(t, "what came by then", small, to, 64, 2, api.OK)
		wantSync(t, "the rest", from, to, 64, 2, api.OK)
		if stateOf(to) != stateOf(from) {
			t.Errorf("room %d: the log has %s", room, stateOf(to))
		}
	}
}

// Questions and answers get lost, come late, come twice, are spoilt; then an exchange in which nothing is lost comes to the same.
func TestWhateverBrokeTheExchange(t *testing.T) {
	for seed := range int64(60) {
		x := rand.New(rand.NewSource(seed))
		logs := history(t, x, 3, 50)
		from, to := logs[0], logs[1]
		want := textsOf(both(to, from))
		var answers [][]byte
		for range 30 {
			ask, _ := Ask(to, 1)
			if x.Intn(4) > 0 {
				p, e := Tell(from, 0, ask, 1+x.Intn(9))
				if e != api.OK {
					t.Fatal(e)
				}
				answers = append(answers, p)
			}
			if len(answers) == 0 || x.Intn(3) == 0 {
				continue
			}
			p := answers[x.Intn(len(answers))]
			if x.Intn(3) == 0 {
				p, _ = seal.Spoil(p, x.Intn(len(p)), 1+x.Intn(255))
			}
			// A late answer finds that all on which its changes hang is there: what a log has does not go.
			if _, _, e := Take(to, p); e != api.OK && e != api.ErrSum && e != api.ErrForm {
				t.Fatalf("seed %d: %d", seed, e)
			}
		}
		if _, e := Sync(from, to, 1+x.Intn(64)); e != api.OK || textsOf(to.All()) != want {
			t.Fatalf("seed %d: %d, the log has\n%s\nwant\n%s", seed, e, textsOf(to.All()), want)
		}
	}
}

// P10.7

func TestATurnedAnswerAddsNothing(t *testing.T) {
	from := logOf(t, 9, first, second, third, fourth)
	for _, known := range [][]int{nil, {1}, {2, 1}, {2, 1, 1}} {
		to := mustNew(t, 9)
		for _, c := range from.All() {
			if r := c.At.Replica; r < len(known) && c.Seq <= known[r] {
				mustAdd(t, to, c)
			}
		}
		p, e := Tell(from, 0, digest(t, known...), 64)
		if e != api.OK {
			t.Fatal(e)
		}
		before := stateOf(to)
		for i := range p {
			for mask := 1; mask < 256; mask++ {
				q := slices.Clone(p)
				q[i] ^= byte(mask)
				if n, more, e := Take(to, q); n != 0 || more || e != api.ErrSum && e != api.ErrForm {
					t.Fatalf("byte %d by %x: %d %v %d", i, mask, n, more, e)
				}
			}
		}
		if stateOf(to) != before {
			t.Errorf("the log has %s", stateOf(to))
		}
	}
}

func TestATurnedQuestionIsRefused(t *testing.T) {
	l := logOf(t, 9, first, second)
	p := digest(t, 1, 0, 3)
	for i := range p {
		for mask := 1; mask < 256; mask++ {
			q, _ := seal.Spoil(p, i, mask)
			if got, e := Tell(l, 0, q, 1); len(got) != 0 || e != api.ErrSum && e != api.ErrForm {
				t.Fatalf("byte %d by %x: %x %d", i, mask, got, e)
			}
		}
	}
}

// Rules 1, 2 and 3

func TestAnyLoad(t *testing.T) {
	x := rand.New(rand.NewSource(1))
	from := chain(t, 20, 12, 3)
	some, _ := Tell(from, 0, digest(t), 8)
	_, load, _ := seal.Open(some)
	for range 20000 {
		turned := slices.Clone(load[:x.Intn(len(load)+1)])
		for range min(len(turned), 1+x.Intn(3)) {
			turned[x.Intn(len(turned))] = byte(x.Intn(256))
		}
		p, e := seal.Seal(1+x.Intn(4), turned)
		if e != api.OK {
			t.Fatal(e)
		}
		wantAnyFrame(t, p)
	}
}

func FuzzAnyBytes(f *testing.F) {
	f.Add(api.FAnswer, []byte{0, 0, 0, 0})
	f.Add(api.FDigest, []byte{2, 3, 1, 0, 3, 0, 0})
	f.Add(api.FAnswer, []byte{2, 2, 1, 1, 1, 1, 11, 1, 1, 0, 1, 0, 0, 0, 0, 0, 1, 112})
	f.Fuzz(func(t *testing.T, kind int, load []byte) {
		wantAnyFrame(t, load)
		if p, e := seal.Seal(kind, load); e == api.OK {
			wantAnyFrame(t, p)
		}
	})
}

// wantAnyFrame holds what Tell and Take answer to p against what is to be read in p.
func wantAnyFrame(t testing.TB, p []byte) {
	t.Helper()
	f, why := wire.Read(p)
	l := logOf(t, 3, first)
	got, e := Tell(l, 4, p, 2)
	switch {
	case why != api.OK || f.Kind != api.FDigest:
		if want := max(why, api.ErrForm); e != want || len(got) != 0 {
			t.Fatalf("Tell(%x): %x %d, want %d", p, got, e, want)
		}
	case e != api.OK:
		t.Fatalf("Tell(%x): %d", p, e)
	}
	plain := l.Clone()
	added, want := plainTake(plain, f.Changes)
	if why != api.OK || f.Kind != api.FAnswer {
		plain, added, want, f.More = l.Clone(), 0, max(why, api.ErrForm), false
	}
	wantTake(t, "any bytes", l, p, added, f.More && want == api.OK, want)
	if stateOf(l) != stateOf(plain) {
		t.Fatalf("Take(%x): the log has %s, want %s", p, stateOf(l), stateOf(plain))
	}
}

func plainTake(l *oplog.Log, changes []api.Change) (int, api.Errno) {
	before := l.Len()
	for _, c := range changes {
		if e := l.Add(c); e != api.OK && e != api.ErrTwice {
			return l.Len() - before, e
		}
	}
	return l.Len() - before, api.OK
}

// inARoom hands p over with room behind it, asks that it is not changed, and overwrites it then.
func inARoom(t *testing.T, p []byte, hand func(p []byte)) {
	t.Helper()
	room := append(slices.Clone(p), 1, 2, 3)
	hand(room[:len(p)])
	if !bytes.Equal(room, append(slices.Clone(p), 1, 2, 3)) {
		t.Errorf("%x is changed", p)
	}
	clear(room)
}

func TestBytesAreNeitherChangedNorKept(t *testing.T) {
	l := logOf(t, 9, first, second, third)
	want, _ := Tell(l, 0, digest(t, 1), 2)
	var told []byte
	inARoom(t, digest(t, 1), func(p []byte) { told, _ = Tell(l, 0, p, 2) })
	if !bytes.Equal(told, want) {
		t.Errorf("Tell keeps what it was asked: %x", told)
	}
	to := mustNew(t, 9)
	inARoom(t, answer(t, false, first, second, third), func(p []byte) { Take(to, p) })
	wantLog(t, "Take", to, first, second, third)
	for _, w := range append(wrongFrames(t, api.FDigest), wrongFrames(t, api.FAnswer)...) {
		inARoom(t, w.bytes, func(p []byte) {
			Tell(l, 0, p, 2)
			Take(to, p)
		})
	}
}

func TestAnswersAreNew(t *testing.T) {
	l := logOf(t, 9, first, second, third)
	asked, _ := Ask(l, 0)
	told, _ := Tell(l, 0, digest(t), 2)
	for _, p := range [][]byte{asked, told} {
		clear(p[:cap(p)])
	}
	if p, e := Ask(l, 0); e != api.OK || !bytes.Equal(p, sealed(t, api.FDigest, "00 02 02 01 00 00")) {
		t.Errorf("Ask: memory is shared: %x", p)
	}
	again, _ := Tell(l, 0, digest(t), 2)
	if f, e := wire.Read(again); e != api.OK || textsOf(f.Changes) != first+"\n"+second {
		t.Errorf("Tell: memory is shared: %x", again)
	}
	wantLog(t, "at the end", l, first, second, third)
}

func TestSyncSharesNothing(t *testing.T) {
	from, to := logOf(t, 9, first, second), mustNew(t, 9)
	wantSync(t, "two changes", from, to, 64, 2, api.OK)
	mustAdd(t, to, mustParse(t, third))
	wantLog(t, "from", from, first, second)
	mustAdd(t, from, mustParse(t, `create 9.5 1 1,1 root - p`))
	wantLog(t, "to", to, first, second, third)
}

func TestAskAndTellChangeNothing(t *testing.T) {
	l := logOf(t, 9, first, second, third)
	before := stateOf(l)
	for range 3 {
		ask, _ := Ask(l, 0)
		p, _ := Ask(l, 0)
		a, _ := Tell(l, 0, digest(t), 2)
		b, _ := Tell(l, 0, digest(t), 2)
		if !bytes.Equal(ask, p) || !bytes.Equal(a, b) || stateOf(l) != before {
			t.Fatalf("not the same once more: %x %x, %s", p, b, stateOf(l))
		}
	}
}
