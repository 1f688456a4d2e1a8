package wire

import (
	"bytes"
	"encoding/binary"
	"encoding/hex"
	"hash/crc32"
	"math"
	"math/rand"
	"reflect"
	"slices"
	"strings"
	"testing"

	"topiary/api"
	"topiary/change"
)

func stamp(count, replica int) api.Stamp {
	return api.Stamp{Count: count, Replica: replica}
}

func mustParse(t testing.TB, text string) api.Change {
	t.Helper()
	c, e := change.Parse(text)
	if e != api.OK {
		t.Fatalf("%s: %d", text, e)
	}
	return c
}

func fromHex(t testing.TB, s string) []byte {
	t.Helper()
	p, err := hex.DecodeString(strings.ReplaceAll(s, " ", ""))
	if err != nil {
		t.Fatal(err)
	}
	return p
}

// The tests' own writing, of right and wrong values alike, held against the chapter alone.

func lookNumbers(b []byte, l ...int) []byte {
	for _, n := range l {
		b = binary.AppendUvarint(b, uint64(n))
	}
	return b
}

func lookTexts(b []byte, l ...string) []byte {
	for _, s := range l {
		b = append(lookNumbers(b, len(s)), s...)
	}
	return b
}

func lookStamps(b []byte, l ...api.Stamp) []byte {
	for _, s := range l {
		b = lookNumbers(b, s.Count, s.Replica)
	}
	return b
}

func lookChange(c api.Change) []byte {
	b := lookNumbers(nil, c.Kind, c.At.Count, c.At.Replica, c.Seq, len(c.Deps))
	b = lookNumbers(b, c.Deps...)
	switch c.Kind {
	case 1:
		return lookTexts(lookStamps(b, c.Parent, c.After), c.Name)
	case 2:
		return lookStamps(b, c.Node, c.Parent, c.After)
	case 3:
		return lookTexts(lookStamps(b, c.Node), c.Name, c.Value)
	case 4:
		return lookTexts(lookStamps(b, c.Node), c.Name)
	case 5:
		return lookTexts(lookStamps(b, c.Node), c.Value)
	}
	return b
}

func lookLoad(f api.Frame) []byte {
	b := lookNumbers(nil, f.From, len(f.Clock))
	b = lookNumbers(b, f.Clock...)
	more := 0
	if f.More {
		more = 1
	}
	b = lookNumbers(b, more, len(f.Changes))
	for _, c := range f.Changes {
		b = lookTexts(b, string(lookChange(c)))
	}
	return b
}

func lookSeal(kind int, load []byte) []byte {
	p := binary.LittleEndian.AppendUint32([]byte{byte(kind)}, uint32(len(load)))
	p = append(p, load...)
	return binary.LittleEndian.AppendUint32(p, crc32.ChecksumIEEE(p))
}

func lookFrame(f api.Frame) []byte {
	return lookSeal(f.Kind, lookLoad(f))
}

// full is the greatest clock of all, but that it has less of the replica 63.
func full() []int {
	out := slices.Repeat([]int{api.MaxCount}, api.MaxReplicas)
	out[63] = api.MaxCount - 1
	return out
}

// longest is a change that has as many bytes as any.
func longest() api.Change {
	return api.Change{
		At: stamp(api.MaxCount, 63), Seq: api.MaxCount, Deps: full(), Kind: api.KSet, Node: stamp(api.MaxCount, 62),
		Name: strings.Repeat("a", api.MaxName), Value: strings.Repeat("\xff", api.MaxValue),
	}
}

// someChanges are right ones, of all kinds and with the edges of their fields.
func someChanges(t testing.TB) []api.Change {
	var out []api.Change
	for _, text := range []string{
		`create 1.0 1 - root - p`, `create 3.1 1 2 root - p`, `create 9.2 3 4,0,2,1 4.0 6.3 h1`,
		`create 1.63 1 - trash 1.62 a-b`, `create 128.0 128 127 127.63 127.63 z`, `create 2.0 1 0,1099511627776 trash - p`,
		`move 1.1 1 - 1.0 root -`, `move 9.2 3 4,0,2,1 5.1 4.0 6.3`, `move 9.0 2 1,4 3.1 trash 8.2`, `move 300.0 1 - 299.63 299.62 299.61`,
		`set 1.0 1 - root a ""`, `set 4.1 2 2,1 3.1 class "a\0a"`, `set 9.2 3 4,0,2,1 5.1 b "\00\ff\22"`,
		`clear 1.0 1 - root a`, `clear 9.2 3 4,0,2,1 5.1 class`, `clear 16384.63 1 - 16383.63 z9-`,
		`text 1.0 1 - root ""`, `text 9.2 3 4,0,2,1 5.1 "a b"`, `text 7.0 7 6 root "\80"`, `text 7.0 1 0,9 root "x"`,
	} {
		out = append(out, mustParse(t, text))
	}
	last := stamp(api.MaxCount, 63)
	out = append(out, longest(),
		api.Change{At: last, Seq: api.MaxCount, Deps: full(), Kind: api.KCreate, Node: last, Parent: stamp(api.MaxCount, 62), After: stamp(api.MaxCount, 61), Name: strings.Repeat("z", api.MaxName)},
		api.Change{At: last, Seq: 1, Deps: full()[:63], Kind: api.KMove, Node: stamp(api.MaxCount, 1), Parent: stamp(api.MaxCount, 2), After: stamp(api.MaxCount, 3)})
	for _, size := range []int{1, 127, 128, 255, api.MaxValue} {
		out = append(out, api.Change{At: stamp(size, 0), Seq: size, Deps: clockOf(size - 1), Kind: api.KText, Value: strings.Repeat("v", size)})
	}
	return out
}

func clockOf(n int) []int {
	if n == 0 {
		return nil
	}
	return []int{n}
}

// wrongChanges are no right ones, with what change.Check says of each.
func wrongChanges(t testing.TB) []api.Change {
	var out []api.Change
	spoil := func(text string, how ...func(c *api.Change)) {
		for _, do := range how {
			c := mustParse(t, text)
			do(&c)
			out = append(out, c)
		}
	}
	spoil(`create 9.2 3 4,0,2,1 4.0 6.3 p`,
		func(c *api.Change) { c.Kind = 0 }, func(c *api.Change) { c.Kind = 6 }, func(c *api.Change) { c.Kind = math.MaxInt },
		func(c *api.Change) { c.At, c.Node = stamp(0, 2), stamp(0, 2) },
		func(c *api.Change) { c.At, c.Node = stamp(api.MaxCount+1, 2), stamp(api.MaxCount+1, 2) },
		func(c *api.Change) { c.At, c.Node = stamp(9, 64), stamp(9, 64) },
		func(c *api.Change) { c.Seq = 0 }, func(c *api.Change) { c.Seq = 10 }, func(c *api.Change) { c.Seq = 2 }, func(c *api.Change) { c.Seq = 4 },
		func(c *api.Change) { c.Deps = []int{4, 0, 2, 1, 0} }, func(c *api.Change) { c.Deps = []int{4, 0, 1} },
		func(c *api.Change) { c.Deps = []int{4, 0, 2, api.MaxCount + 1} }, func(c *api.Change) { c.Deps = []int{4, 0, 2, math.MaxInt} },
		func(c *api.Change) { c.Deps = append(c.Deps, slices.Repeat([]int{1}, 61)...) },
		func(c *api.Change) { c.Parent = c.At }, func(c *api.Change) { c.Parent = stamp(9, 3) }, func(c *api.Change) { c.Parent = stamp(0, 2) },
		func(c *api.Change) { c.After = c.At }, func(c *api.Change) { c.After = stamp(0, 1) }, func(c *api.Change) { c.After = stamp(8, 64) },
		func(c *api.Change) { c.Name = "" }, func(c *api.Change) { c.Name = "P" }, func(c *api.Change) { c.Name = strings.Repeat("p", 33) })
	spoil(`move 9.2 3 4,0,2,1 5.1 4.0 6.3`,
		func(c *api.Change) { c.Node = stamp(0, 0) }, func(c *api.Change) { c.Node = stamp(0, 1) }, func(c *api.Change) { c.Node = c.At },
		func(c *api.Change) { c.Parent = c.Node }, func(c *api.Change) { c.Parent = stamp(0, 2) }, func(c *api.Change) { c.After = stamp(9, 2) })
	spoil(`set 9.2 3 4,0,2,1 5.1 b "v"`,
		func(c *api.Change) { c.Node = stamp(0, 1) }, func(c *api.Change) { c.Node = c.At }, func(c *api.Change) { c.Name = "-" },
		func(c *api.Change) { c.Value = strings.Repeat("v", 257) })
	spoil(`clear 9.2 3 4,0,2,1 5.1 b`, func(c *api.Change) { c.Node = stamp(9, 3) }, func(c *api.Change) { c.Name = "" })
	spoil(`text 9.2 3 4,0,2,1 5.1 "v"`, func(c *api.Change) { c.Node = stamp(0, 1) }, func(c *api.Change) { c.Value = strings.Repeat("v", 257) })
	return out
}

func wantNoChange(t testing.TB, name string, p []byte) {
	t.Helper()
	if c, e := Get(p); e != api.ErrForm || !reflect.DeepEqual(c, api.Change{}) {
		t.Errorf("%s: Get of %.60x: %v %d", name, p, c, e)
	}
}

func wantNoFrame(t testing.TB, name string, p []byte, want api.Errno) {
	t.Helper()
	if f, e := Read(p); e != want || !reflect.DeepEqual(f, api.Frame{}) {
		t.Errorf("%s: Read of %.60x: %v %d, not %d", name, p, f, e, want)
	}
}

func sameFrame(f, g api.Frame) bool {
	return f.Kind == g.Kind && f.From == g.From && slices.Equal(f.Clock, g.Clock) && f.More == g.More && slices.EqualFunc(f.Changes, g.Changes, change.Same)
}

// P6.1

func TestPutBytes(t *testing.T) {
	for text, want := range map[string]string{
		`create 3.1 1 2 root - p`:              `01 0301 01 01 02 0000 0000 01 70`,
		`create 9.2 3 4,0,2,1 4.0 6.3 h1`:      `01 0902 03 04 04000201 0400 0603 02 6831`,
		`create 1.0 1 - trash - p`:             `01 0100 01 00 0001 0000 01 70`,
		`move 9.2 3 4,0,2,1 5.1 4.0 6.3`:       `02 0902 03 04 04000201 0501 0400 0603`,
		`move 300.0 1 - 299.63 trash -`:        `02 ac0200 01 00 ab023f 0001 0000`,
		`set 4.1 2 2,1 3.1 class "a\0a"`:       `03 0401 02 02 0201 0301 05 636c617373 02 610a`,
		`set 1.0 1 - root a ""`:                `03 0100 01 00 0000 01 61 00`,
		`clear 9.2 3 4,0,2,1 5.1 class`:        `04 0902 03 04 04000201 0501 05 636c617373`,
		`text 9.2 3 4,0,2,1 5.1 "a b"`:         `05 0902 03 04 04000201 0501 03 612062`,
		`text 128.0 128 127 root ""`:           `05 800100 8001 01 7f 0000 00`,
		`text 1099511627776.63 1 - root "\00"`: `05 8080808080203f 01 00 0000 01 00`,
	} {
		c, want := mustParse(t, text), fromHex(t, want)
		if p, e := Put(c); e != api.OK || !bytes.Equal(p, want) {
			t.Errorf("Put of %s: %x %d, not %x", text, p, e, want)
		}
		if d, e := Get(want); e != api.OK || !reflect.DeepEqual(c, d) {
			t.Errorf("Get of %x: %v %d, not %s", want, d, e, text)
		}
	}
}

func TestPutOfEdges(t *testing.T) {
	for _, c := range someChanges(t) {
		p, e := Put(c)
		if e != api.OK || !bytes.Equal(p, lookChange(c)) {
			t.Errorf("Put of %v: %x %d", c, p, e)
		}
		if d, e := Get(p); e != api.OK || !change.Same(c, d) {
			t.Errorf("Get of %x: %v %d", p, d, e)
		}
	}
}

func TestPutRefuses(t *testing.T) {
	for _, c := range append(wrongChanges(t),
		api.Change{}, api.Change{Kind: -1}, api.Change{Kind: math.MinInt},
		api.Change{Kind: api.KText, At: stamp(math.MinInt, math.MaxInt)},
		api.Change{Kind: api.KText, At: stamp(1, 0), Seq: 1, Deps: []int{-1}},
		api.Change{Kind: api.KText, At: stamp(1, 0), Seq: 1, Parent: stamp(1, 0)},
		api.Change{Kind: api.KText, At: stamp(1, 0), Seq: 1, After: stamp(0, 1)},
		api.Change{Kind: api.KText, At: stamp(1, 0), Seq: 1, Name: "a"},
		api.Change{Kind: api.KCreate, At: stamp(2, 0), Seq: 1, Node: stamp(1, 0), Name: "a"},
		api.Change{Kind: api.KCreate, At: stamp(2, 0), Seq: 1, Node: stamp(2, 0), Name: "a", Value: "v"},
		api.Change{Kind: api.KClear, At: stamp(2, 0), Seq: 1, Name: "a", Value: "v"}) {
		want := change.Check(c)
		if p, e := Put(c); want == api.OK || e != want || len(p) != 0 {
			t.Errorf("Put of %v: %x %d, not %d", c, p, e, want)
		}
	}
	for want, c := range map[api.Errno]api.Change{
		api.ErrRange: {Kind: 6},
		api.ErrForm:  {Kind: api.KText},
		api.ErrName:  {Kind: api.KClear, At: stamp(1, 0), Seq: 1, Name: "A"},
		api.ErrLong:  {Kind: api.KText, At: stamp(1, 0), Seq: 1, Value: strings.Repeat("v", 257)},
	} {
		if _, e := Put(c); e != want {
			t.Errorf("%v: %d, not %d", c, e, want)
		}
	}
}

func TestGetOfWrongChanges(t *testing.T) {
	for _, c := range wrongChanges(t) {
		wantNoChange(t, "no right change", lookChange(c))
	}
}

func TestGetReadsAllBytesAndNoMore(t *testing.T) {
	wantNoChange(t, "no bytes", nil)
	wantNoChange(t, "many bytes", make([]byte, 1<<20))
	wantNoChange(t, "many high bytes", bytes.Repeat([]byte{0xff}, 1<<20))
	for _, c := range someChanges(t) {
		p := lookChange(c)
		for i := range p {
			wantNoChange(t, "cut short", p[:i])
		}
		for b := range 256 {
			wantNoChange(t, "a byte behind", append(slices.Clone(p), byte(b)))
		}
		wantNoChange(t, "twice", append(slices.Clone(p), p...))
	}
}

func TestGetTakesShortestNumbersAlone(t *testing.T) {
	p := fromHex(t, `03 0401 02 02 0201 0301 05 636c617373 02 610a`)
	if _, e := Get(p); e != api.OK {
		t.Fatal(e)
	}
	for _, i := range []int{0, 1, 2, 3, 4, 5, 6, 7, 8, 9, 15} {
		for _, tail := range [][]byte{{0}, {0x80, 0}, bytes.Repeat([]byte{0x80}, 12), append(bytes.Repeat([]byte{0x80}, 8), 1)} {
			q := slices.Concat(p[:i], []byte{p[i] | 0x80}, tail, p[i+1:])
			wantNoChange(t, "a number that is longer", q)
		}
	}
}

// lookGet reads by the library's own numbers, and asks whether the bytes written again are the same ones.
func lookGet(p []byte) (api.Change, bool) {
	rest, ok := p, true
	num := func() int {
		n, size := binary.Uvarint(rest)
		if size <= 0 || n > math.MaxInt64 {
			ok = false
			return 0
		}
		rest = rest[size:]
		return int(n)
	}
	text := func() string {
		n := num()
		if n > len(rest) {
			ok = false
			return ""
		}
		s := string(rest[:n])
		rest = rest[n:]
		return s
	}
	at := func() api.Stamp { n := num(); return stamp(n, num()) }
	c := api.Change{Kind: num(), At: at(), Seq: num()}
	for range min(num(), 100) {
		c.Deps = append(c.Deps, num())
	}
	switch c.Kind {
	case 1:
		c.Node, c.Parent, c.After, c.Name = c.At, at(), at(), text()
	case 2:
		c.Node, c.Parent, c.After = at(), at(), at()
	case 3:
		c.Node, c.Name, c.Value = at(), text(), text()
	case 4:
		c.Node, c.Name = at(), text()
	case 5:
		c.Node, c.Value = at(), text()
	}
	return c, ok && change.Check(c) == api.OK && bytes.Equal(lookChange(c), p)
}

// wantGet holds Get against lookGet, and tells whether p are a change's bytes.
func wantGet(t testing.TB, p []byte) bool {
	t.Helper()
	c, ok := lookGet(p)
	if !ok {
		wantNoChange(t, "no change", p)
		return false
	}
	d, e := Get(p)
	q, f := Put(d)
	if e != api.OK || f != api.OK || !change.Same(c, d) || !bytes.Equal(p, q) {
		t.Errorf("Get of %x: %v %d, not %v; Put again: %x %d", p, d, e, c, q, f)
	}
	return true
}

// eachBytes goes over all bytes out of a few ones, up to so many, behind those of head.
func eachBytes(head, few []byte, most int, do func(p []byte)) {
	do(head)
	if most == 0 {
		return
	}
	for _, b := range few {
		eachBytes(append(slices.Clone(head), b), few, most-1, do)
	}
}

func TestGetOfAllShortBytes(t *testing.T) {
	for _, x := range []struct {
		head string
		few  []byte
		most int
	}{
		{``, []byte{0, 1, 2, 5}, 8},
		{`01 0201 01 00`, []byte{0, 1, 2, 'a', 0x80}, 6},
		{`02 0201 01 00`, []byte{0, 1, 2, 3, 0x80}, 6},
		{`03 0201 01 00`, []byte{0, 1, 2, 'a', 0x80}, 5},
		{`04 0201 01 01`, []byte{0, 1, 2, 'a', 0x80}, 5},
		{`05 0200 01 02`, []byte{0, 1, 2, 'a', 0x80}, 5},
		{`05 0201 02 02`, []byte{0, 1, 2, 'a', 0x80}, 5},
	} {
		right := 0
		eachBytes(fromHex(t, x.head), x.few, x.most, func(p []byte) {
			if wantGet(t, p) {
				right++
			}
		})
		if right == 0 {
			t.Errorf("behind %s none of them was a change's", x.head)
		}
	}
}

func TestGetOfTurnedBytes(t *testing.T) {
	r := rand.New(rand.NewSource(6))
	right := 0
	for range 200 {
		for _, c := range someChanges(t) {
			p := lookChange(c)
			switch i := r.Intn(len(p)); r.Intn(3) {
			case 0:
				p[i] = byte(r.Intn(256))
			case 1:
				p[i] = byte(r.Intn(6))
			case 2:
				p = slices.Delete(p, i, i+1)
			}
			if wantGet(t, p) {
				right++
			}
		}
	}
	if right == 0 {
		t.Error("none of them was a change's")
	}
}

func FuzzGet(f *testing.F) {
	for _, c := range someChanges(f) {
		f.Add(lookChange(c))
	}
	f.Fuzz(func(t *testing.T, p []byte) { wantGet(t, p) })
}

// P6.2

// someFrames are right ones, of all kinds and with the edges of their fields.
func someFrames(t testing.TB) []api.Frame {
	cs := someChanges(t)
	most := slices.Repeat([]api.Change{longest()}, api.MaxBatch)
	return []api.Frame{
		{Kind: api.FBatch, Changes: cs[:1]},
		{Kind: api.FBatch, From: 63, Clock: []int{}, Changes: cs},
		{Kind: api.FBatch, From: 1, Changes: most},
		{Kind: api.FDigest},
		{Kind: api.FDigest, From: 2, Clock: []int{1, 0, 3}, Changes: []api.Change{}},
		{Kind: api.FDigest, From: 63, Clock: full()},
		{Kind: api.FDigest, From: 0, Clock: slices.Repeat([]int{api.MaxCount}, 64)},
		{Kind: api.FAnswer},
		{Kind: api.FAnswer, More: true},
		{Kind: api.FAnswer, From: 3, Clock: []int{5}, More: true},
		{Kind: api.FAnswer, From: 3, Clock: []int{0, 5}, Changes: cs[:2]},
		{Kind: api.FAnswer, From: 3, Clock: []int{0, 128}, More: true, Changes: slices.Concat(cs, cs)},
		{Kind: api.FAnswer, From: 63, Clock: full(), More: true, Changes: most},
	}
}

func TestCheckOK(t *testing.T) {
	for _, f := range someFrames(t) {
		if e := Check(f); e != api.OK {
			t.Errorf("%v: %d", f, e)
		}
	}
}

// A fault is one way of making a right frame wrong. They stand in the order of the reasons that Check names.
type fault struct {
	name  string
	e     api.Errno
	of    []int // the kinds that have it
	spoil func(f *api.Frame)
}

var allKinds = []int{api.FBatch, api.FDigest, api.FAnswer}

func faults(t testing.TB) []fault {
	right := mustParse(t, `text 1.0 1 - root "a"`)
	out := []fault{
		{"kind 0", api.ErrRange, allKinds, func(f *api.Frame) { f.Kind = 0 }},
		{"kind 4", api.ErrRange, allKinds, func(f *api.Frame) { f.Kind = 4 }},
		{"kind -1", api.ErrRange, allKinds, func(f *api.Frame) { f.Kind = -1 }},
		{"greatest kind", api.ErrRange, allKinds, func(f *api.Frame) { f.Kind = math.MaxInt }},
		{"least kind", api.ErrRange, allKinds, func(f *api.Frame) { f.Kind = math.MinInt }},
		{"from 64", api.ErrRange, allKinds, func(f *api.Frame) { f.From = 64 }},
		{"from -1", api.ErrRange, allKinds, func(f *api.Frame) { f.From = -1 }},
		{"from the greatest", api.ErrRange, allKinds, func(f *api.Frame) { f.From = math.MaxInt }},
		{"from the least", api.ErrRange, allKinds, func(f *api.Frame) { f.From = math.MinInt }},
		{"65 numbers", api.ErrLong, allKinds, func(f *api.Frame) { f.Clock = slices.Repeat([]int{1}, 65) }},
		{"65 noughts", api.ErrLong, allKinds, func(f *api.Frame) { f.Clock = make([]int, 65) }},
		{"65 numbers below 0", api.ErrLong, allKinds, func(f *api.Frame) { f.Clock = slices.Repeat([]int{-1}, 65) }},
		{"a number below 0", api.ErrRange, allKinds, func(f *api.Frame) { f.Clock = []int{1, -1, 0} }},
		{"a number above MaxCount", api.ErrRange, allKinds, func(f *api.Frame) { f.Clock = []int{api.MaxCount + 1} }},
		{"the greatest number", api.ErrRange, allKinds, func(f *api.Frame) { f.Clock = []int{math.MaxInt, 1} }},
		{"a nought", api.ErrForm, allKinds, func(f *api.Frame) { f.Clock = []int{0} }},
		{"a nought behind", api.ErrForm, allKinds, func(f *api.Frame) { f.Clock = []int{1, 2, 0} }},
		{"64 noughts", api.ErrForm, allKinds, func(f *api.Frame) { f.Clock = make([]int, 64) }},
		{"65 changes", api.ErrLong, allKinds, func(f *api.Frame) { f.Changes = slices.Repeat([]api.Change{right}, 65) }},
		{"65 wrong changes", api.ErrLong, allKinds, func(f *api.Frame) { f.Changes = make([]api.Change, 65) }},
		{"many changes", api.ErrLong, allKinds, func(f *api.Frame) { f.Changes = make([]api.Change, 1<<12) }},
		{"a batch's clock", api.ErrForm, []int{api.FBatch}, func(f *api.Frame) { f.Clock = []int{1} }},
		{"a batch's more", api.ErrForm, []int{api.FBatch}, func(f *api.Frame) { f.More = true }},
		{"a batch of nothing", api.ErrForm, []int{api.FBatch}, func(f *api.Frame) { f.Changes = []api.Change{} }},
		{"a digest's more", api.ErrForm, []int{api.FDigest}, func(f *api.Frame) { f.More = true }},
		{"a digest's change", api.ErrForm, []int{api.FDigest}, func(f *api.Frame) { f.Changes = append(f.Changes, right) }},
	}
	for _, c := range wrongChanges(t) {
		of := []int{api.FBatch, api.FAnswer}
		out = append(out,
			fault{"a wrong change ahead", change.Check(c), of, func(f *api.Frame) { f.Changes = slices.Concat([]api.Change{c}, f.Changes) }},
			fault{"a wrong change behind", change.Check(c), of, func(f *api.Frame) { f.Changes = append(slices.Clone(f.Changes), c) }})
	}
	return out
}

func sampleFrame(t testing.TB, kind int) api.Frame {
	f := api.Frame{Kind: kind, From: 3}
	if kind != api.FBatch {
		f.Clock = []int{0, 5}
	}
	if kind == api.FAnswer {
		f.More = true
	}
	if kind != api.FDigest {
		f.Changes = someChanges(t)[:3]
	}
	return f
}

func TestCheckTellsTheFault(t *testing.T) {
	for _, kind := range allKinds {
		for _, x := range faults(t) {
			f := sampleFrame(t, kind)
			x.spoil(&f)
			if !slices.Contains(x.of, kind) {
				continue
			}
			if e := Check(f); e != x.e {
				t.Errorf("%s of kind %d: %d, not %d", x.name, kind, e, x.e)
			}
			if p, e := Write(f); e != x.e || len(p) != 0 {
				t.Errorf("%s of kind %d: Write %x %d, not %d", x.name, kind, p, e, x.e)
			}
		}
	}
}

// wantCheck is the chapter told anew.
func wantCheck(f api.Frame) api.Errno {
	if f.Kind != 1 && f.Kind != 2 && f.Kind != 3 || f.From < 0 || f.From > 63 {
		return api.ErrRange
	}
	if len(f.Clock) > 64 {
		return api.ErrLong
	}
	for _, n := range f.Clock {
		if n < 0 || n > 1<<40 {
			return api.ErrRange
		}
	}
	if n := len(f.Clock); n > 0 && f.Clock[n-1] == 0 {
		return api.ErrForm
	}
	if len(f.Changes) > 64 {
		return api.ErrLong
	}
	batch := f.Kind == 1 && (len(f.Clock) > 0 || f.More || len(f.Changes) == 0)
	digest := f.Kind == 2 && (f.More || len(f.Changes) > 0)
	if batch || digest {
		return api.ErrForm
	}
	for _, c := range f.Changes {
		if e := change.Check(c); e != api.OK {
			return e
		}
	}
	return api.OK
}

func TestCheckTellsTheFirstFault(t *testing.T) {
	all := faults(t)
	for _, kind := range allKinds {
		for _, x := range all {
			for _, y := range all {
				f := sampleFrame(t, kind)
				y.spoil(&f)
				x.spoil(&f)
				want := wantCheck(f)
				if e := Check(f); e != want {
					t.Errorf("%s and %s of kind %d: %d, not %d", x.name, y.name, kind, e, want)
				}
			}
		}
	}
}

func TestCheckOfAllEdges(t *testing.T) {
	right := mustParse(t, `text 1.0 1 - root "a"`)
	long := right
	long.Value = strings.Repeat("v", 257)
	for _, kind := range []int{math.MinInt, -1, 0, 1, 2, 3, 4, 15, math.MaxInt} {
		for _, from := range []int{math.MinInt, -1, 0, 1, 63, 64, math.MaxInt} {
			for _, c := range [][]int{nil, {}, {0}, {1}, {0, 1}, {1, 0}, {-1}, {0, -1, 0}, {1 << 40}, {1<<40 + 1}, full(), append(full(), 1), make([]int, 65)} {
				for _, more := range []bool{false, true} {
					for _, l := range [][]api.Change{nil, {}, {right}, {long}, {right, long}, {long, {}}, {{}, long}, {right, right}, slices.Repeat([]api.Change{right}, 64), slices.Repeat([]api.Change{right}, 65), make([]api.Change, 65)} {
						f := api.Frame{Kind: kind, From: from, Clock: c, More: more, Changes: l}
						if e := Check(f); e != wantCheck(f) {
							t.Errorf("kind %d from %d %v %v %d changes: %d, not %d", kind, from, c, more, len(l), e, wantCheck(f))
						}
					}
				}
			}
		}
	}
}

// P6.3

func TestWriteBytes(t *testing.T) {
	c := mustParse(t, `create 3.1 1 2 root - p`)
	d := mustParse(t, `text 1.0 1 - root ""`)
	long := mustParse(t, `text 1.0 1 - root "`+strings.Repeat("v", 200)+`"`)
	for _, x := range []struct {
		f    api.Frame
		load string
	}{
		{api.Frame{Kind: api.FDigest, From: 2, Clock: []int{1, 0, 3}}, `02 03 01 00 03 00 00`},
		{api.Frame{Kind: api.FDigest}, `00 00 00 00`},
		{api.Frame{Kind: api.FDigest, From: 63, Clock: []int{0, 300}}, `3f 02 00 ac02 00 00`},
		{api.Frame{Kind: api.FBatch, From: 1, Changes: []api.Change{c}}, `01 00 00 01 0c 010301010102000000000170`},
		{api.Frame{Kind: api.FBatch, From: 1, Changes: []api.Change{d, c}}, `01 00 00 02 08 0501000100000000 0c 010301010102000000000170`},
		{api.Frame{Kind: api.FAnswer, From: 3, Clock: []int{5}, More: true}, `03 01 05 01 00`},
		{api.Frame{Kind: api.FAnswer, From: 3, Clock: []int{5}, More: true, Changes: []api.Change{d}}, `03 01 05 01 01 08 0501000100000000`},
		{api.Frame{Kind: api.FAnswer, From: 3, Changes: []api.Change{d, d}}, `03 00 00 02 08 0501000100000000 08 0501000100000000`},
		{api.Frame{Kind: api.FBatch, Changes: []api.Change{long}}, `00 00 00 01 d101 05010001000000 c801` + strings.Repeat("76", 200)},
	} {
		want := lookSeal(x.f.Kind, fromHex(t, x.load))
		if p, e := Write(x.f); e != api.OK || !bytes.Equal(p, want) {
			t.Errorf("Write of %v: %x %d, not %x", x.f, p, e, want)
		}
		if f, e := Read(want); e != api.OK || !sameFrame(x.f, f) {
			t.Errorf("Read of %x: %v %d", want, f, e)
		}
	}
}

func TestTheLongestFrame(t *testing.T) {
	f := api.Frame{Kind: api.FAnswer, From: 63, Clock: slices.Repeat([]int{api.MaxCount}, 64), More: true, Changes: slices.Repeat([]api.Change{longest()}, api.MaxBatch)}
	p, e := Write(f)
	if e != api.OK || len(p) != 9+45124 || len(p) > api.MaxLoad {
		t.Errorf("%d bytes, %d", len(p), e)
	}
	if g, e := Read(p); e != api.OK || !sameFrame(f, g) {
		t.Errorf("%v %d", g, e)
	}
}

func TestReadOfNoFrame(t *testing.T) {
	wantNoFrame(t, "no bytes", nil, api.ErrForm)
	wantNoFrame(t, "eight bytes", make([]byte, 8), api.ErrForm)
	wantNoFrame(t, "many bytes", make([]byte, 1<<20), api.ErrForm)
	p := lookFrame(sampleFrame(t, api.FAnswer))
	for i := range p {
		wantNoFrame(t, "cut short", p[:i], api.ErrForm)
	}
	wantNoFrame(t, "a byte behind", append(slices.Clone(p), 0), api.ErrForm)
	for _, kind := range []byte{0, 16, 255} {
		q := slices.Clone(p)
		q[0] = kind
		wantNoFrame(t, "no kind", q, api.ErrForm)
	}
	q := slices.Clone(p)
	q[len(q)-1]++
	wantNoFrame(t, "another sum", q, api.ErrSum)
	q = lookSeal(4, []byte{9, 9, 9})
	q[5]++
	wantNoFrame(t, "another sum, and no right frame", q, api.ErrSum)
	wantNoFrame(t, "too long a load", lookSeal(1, make([]byte, api.MaxLoad+1)), api.ErrForm)
}

func TestReadOfOtherKinds(t *testing.T) {
	for kind := range 16 {
		for _, of := range allKinds {
			f := sampleFrame(t, of)
			f.Kind = kind
			if wantCheck(f) == api.OK {
				continue
			}
			wantNoFrame(t, "another kind", lookFrame(f), api.ErrForm)
		}
	}
}

func TestReadOfWrongFrames(t *testing.T) {
	for _, kind := range allKinds {
		for _, x := range faults(t) {
			f := sampleFrame(t, kind)
			x.spoil(&f)
			if f.Kind < 1 || f.Kind > 15 || f.From < 0 || slices.ContainsFunc(f.Clock, func(n int) bool { return n < 0 }) {
				continue // there are no such bytes
			}
			if slices.Contains(x.of, kind) {
				wantNoFrame(t, x.name, lookFrame(f), api.ErrForm)
			}
		}
	}
}

func TestReadOfWrongLoads(t *testing.T) {
	for kind, loads := range map[int][]string{
		api.FDigest: {
			``, `00`, `00 00`, `00 00 00`, `00 00 00 00 00`, `40 00 00 00`, `8000 00 00 00`, `00 8000 00 00`, `00 00 8000 00`, `00 00 00 8000`,
			`00 00 01 00`, `00 00 02 00`, `00 00 03 00`, `00 00 00 01`, `00 01 00 00 00`, `00 02 01 00 00`, `00 01 8000 00 00`, `00 ff01 00 00`, `ff`, `00 ff`, `00 00 00 ff`,
			`00 ffffffffffffffff7f 00 00`, `00 00 00 ffffffffffffffff7f`, `ffffffffffffffff7f 00 00 00`, `ffffffffffffffffff01 00 00 00`,
			`00 01 818080808020 00 00`, `00 00 ffffffffffffffff7f 00`,
		},
		api.FBatch: {
			`00 00 00 00`, `01 01 01 00 01 08 0501000100000000`, `01 00 01 01 08 0501000100000000`, `01 00 00 02 08 0501000100000000`, `01 00 00 01 08 0501000100000000 00`,
			`01 00 00 01 08 0501000100000000 08 0501000100000000`, `01 00 00 01 09 0501000100000000 00`, `01 00 00 01 07 05010001000000`, `01 00 00 01 8800 0501000100000000`,
			`01 00 00 01 00`, `01 00 00 01`, `01 00 00 01 08 05010001000000`, `01 00 00 01 08 0001000100000000`, `01 00 00 01 08 0500000100000000`, `01 00 00 02 08 0001000100000000 08 0501000100000000`,
			`01 00 00 01 ffffffffffffffff7f 0501000100000000`, `01 00 02 01 08 0501000100000000`,
		},
		api.FAnswer: {
			`00 00 02 00`, `00 00 00 01`, `00 00 01 01 00`, `00 00 01 00 00`, `00 00 03 00`, `00 00 8100 00`,
			`03 00 00 02 08 0501000100000000 09 0501000100000000`, `03 00 00 03 08 0501000100000000 08 0501000100000000`,
			`03 00 00 02 08 0501000100000000 08 0701000100000000`, `03 00 00 02 08 0701000100000000 08 0501000100000000`,
		},
	} {
		for _, load := range loads {
			wantNoFrame(t, load, lookSeal(kind, fromHex(t, load)), api.ErrForm)
		}
	}
}

func TestReadCountsTheChanges(t *testing.T) {
	one := lookTexts(nil, string(lookChange(mustParse(t, `text 1.0 1 - root ""`))))
	for said := range 70 {
		for there := range 70 {
			p := lookSeal(api.FAnswer, append(lookNumbers(nil, 0, 0, 0, said), bytes.Repeat(one, there)...))
			if f, e := Read(p); said == there && said <= 64 {
				if e != api.OK || len(f.Changes) != there {
					t.Errorf("%d changes: %d %d", there, len(f.Changes), e)
				}
			} else {
				wantNoFrame(t, "another count", p, api.ErrForm)
			}
		}
	}
}

func TestReadOfACutLoad(t *testing.T) {
	for _, f := range someFrames(t) {
		load := lookLoad(f)
		for i := range min(len(load), 2000) {
			wantNoFrame(t, "a load cut short", lookSeal(f.Kind, load[:i]), api.ErrForm)
		}
		for _, b := range []byte{0, 1, 0xff} {
			wantNoFrame(t, "a load with a byte behind", lookSeal(f.Kind, append(slices.Clone(load), b)), api.ErrForm)
		}
	}
}

// P6.4

func TestReadOfWrite(t *testing.T) {
	for _, f := range someFrames(t) {
		p, e := Write(f)
		if e != api.OK || !bytes.Equal(p, lookFrame(f)) {
			t.Errorf("Write of %v: %x %d", f, p, e)
		}
		g, e := Read(p)
		if e != api.OK || !sameFrame(f, g) {
			t.Errorf("Read of %x: %v %d", p, g, e)
		}
		if q, e := Write(g); e != api.OK || !bytes.Equal(p, q) {
			t.Errorf("Write of Read of %x: %x %d", p, q, e)
		}
	}
}

// wantWritten asks that what Read takes is right, and is what Write makes; it tells whether Read takes it.
func wantWritten(t testing.TB, p []byte) bool {
	t.Helper()
	f, e := Read(p)
	if e != api.OK {
		wantNoFrame(t, "no frame", p, e)
		if e != api.ErrForm && e != api.ErrSum {
			t.Errorf("Read of %x: %d", p, e)
		}
		return false
	}
	if q, e := Write(f); wantCheck(f) != api.OK || e != api.OK || !bytes.Equal(p, q) || !bytes.Equal(p, lookFrame(f)) {
		t.Errorf("Read of %x: %v; Write again: %x %d", p, f, q, e)
	}
	return true
}

func TestReadOfAllShortLoads(t *testing.T) {
	for kind := 1; kind <= 4; kind++ {
		right := 0
		eachBytes(nil, []byte{0, 1, 2, 3, 0x40, 0x80}, 6, func(load []byte) {
			if wantWritten(t, lookSeal(kind, load)) {
				right++
			}
		})
		if (right > 0) != (kind == api.FDigest || kind == api.FAnswer) {
			t.Errorf("kind %d: %d loads", kind, right)
		}
	}
}

func TestReadOfTurnedLoads(t *testing.T) {
	r := rand.New(rand.NewSource(66))
	right := 0
	for range 60 {
		for _, f := range someFrames(t) {
			load := lookLoad(f)
			if i := r.Intn(len(load)); r.Intn(2) == 0 {
				load[i] = byte(r.Intn(256))
			} else {
				load[i] = byte(r.Intn(4))
			}
			if wantWritten(t, lookSeal(f.Kind, load)) {
				right++
			}
		}
	}
	if right == 0 {
		t.Error("none of them was a frame's")
	}
}

func FuzzRead(f *testing.F) {
	for _, x := range someFrames(f) {
		f.Add(x.Kind, lookLoad(x))
	}
	f.Fuzz(func(t *testing.T, kind int, load []byte) {
		wantWritten(t, load)
		wantWritten(t, lookSeal(kind, load))
	})
}

// P6.5

func eachMask() []int {
	var out []int
	for mask := 1; mask < 256; mask++ {
		out = append(out, mask)
	}
	return out
}

func TestATurnedByteIsRefused(t *testing.T) {
	for _, f := range someFrames(t) {
		p, _ := Write(f)
		masks := eachMask()
		if len(p) > 500 {
			masks = []int{1, 0x80, 0xff}
		}
		step := max(1, len(p)/300)
		for i := 0; i < len(p); i += step {
			for _, mask := range masks {
				q := slices.Clone(p)
				q[i] ^= byte(mask)
				if g, e := Read(q); e != api.ErrForm && e != api.ErrSum || !reflect.DeepEqual(g, api.Frame{}) {
					t.Errorf("%.40x, byte %d by %x: %v %d", p, i, mask, g, e)
				}
			}
		}
	}
}

// Rule 3

func TestNothingIsChanged(t *testing.T) {
	for _, f := range someFrames(t) {
		room := append(slices.Clone(f.Clock), 7, 7, 7)
		f.Clock = room[:len(f.Clock)]
		rooms := make([][]int, len(f.Changes))
		f.Changes = append(slices.Clone(f.Changes), api.Change{Name: "room"})
		l := f.Changes
		f.Changes = l[:len(l)-1]
		for i := range f.Changes {
			rooms[i] = append(slices.Clone(f.Changes[i].Deps), 7, 7, 7)
			f.Changes[i].Deps = rooms[i][:len(f.Changes[i].Deps)]
		}
		wasRoom, was := slices.Clone(room), lookFrame(f)
		Check(f)
		Write(f)
		for i, c := range f.Changes {
			Put(c)
			if !slices.Equal(rooms[i][len(c.Deps):], []int{7, 7, 7}) {
				t.Errorf("%v: the room behind is changed", c)
			}
		}
		if !slices.Equal(room, wasRoom) || l[len(l)-1].Name != "room" || !bytes.Equal(was, lookFrame(f)) {
			t.Errorf("%v is changed", f)
		}
	}
}

// inARoom hands p over with room behind it, asks that it is not changed, and overwrites it then.
func inARoom(t *testing.T, p []byte, hand func(p []byte)) {
	t.Helper()
	room := append(slices.Clone(p), 1, 2, 3)
	hand(room[:len(p)])
	if !bytes.Equal(room, append(slices.Clone(p), 1, 2, 3)) {
		t.Errorf("%.40x is changed", p)
	}
	clear(room)
}

func TestBytesAreNeitherChangedNorKept(t *testing.T) {
	for _, f := range someFrames(t) {
		var g api.Frame
		inARoom(t, lookFrame(f), func(p []byte) { g, _ = Read(p) })
		if !sameFrame(f, g) {
			t.Errorf("Read of the bytes of %v keeps them", f)
		}
	}
	for _, c := range someChanges(t) {
		var d api.Change
		inARoom(t, lookChange(c), func(p []byte) { d, _ = Get(p) })
		if !change.Same(c, d) {
			t.Errorf("Get of the bytes of %v keeps them", c)
		}
	}
}

func TestAnswersAreNew(t *testing.T) {
	for _, f := range someFrames(t) {
		p, _ := Write(f)
		want := slices.Clone(p)
		g, _ := Read(p)
		h, _ := Read(p)
		clear(p[:cap(p)])
		if q, _ := Write(f); !bytes.Equal(q, want) {
			t.Errorf("Write of %v: bytes are shared", f)
		}
		// All that one answer has is overwritten, list by list with its room, from the last one on.
		for i := len(g.Changes) - 1; i >= 0; i-- {
			deps := g.Changes[i].Deps
			clear(deps[:cap(deps)])
			for j := range i {
				if !slices.Equal(g.Changes[j].Deps, f.Changes[j].Deps) {
					t.Fatalf("the changes %d and %d share their Deps", i, j)
				}
			}
		}
		clear(g.Clock[:cap(g.Clock)])
		clear(g.Changes[:cap(g.Changes)])
		if !sameFrame(f, h) {
			t.Errorf("Read of %.40x twice: memory is shared", want)
		}
	}
	for _, c := range someChanges(t) {
		p, _ := Put(c)
		clear(p[:cap(p)])
		q, _ := Put(c)
		d, _ := Get(q)
		clear(d.Deps[:cap(d.Deps)])
		if d, _ := Get(q); !bytes.Equal(q, lookChange(c)) || !change.Same(c, d) {
			t.Errorf("%v: memory is shared", c)
		}
	}
}
