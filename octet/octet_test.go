package octet

import (
	"bytes"
	"encoding/binary"
	"math"
	"slices"
	"strings"
	"testing"

	"topiary/api"
)

// someNumbers stand on both sides of each place at which a number gets a byte more.
func someNumbers() []int {
	out := []int{0, 1, 2, 5, 100, 300, 16000, api.MaxCount, api.MaxLoad, math.MaxInt32, math.MaxInt - 1, math.MaxInt}
	for size := 1; size < 9; size++ {
		edge := 1 << (7 * size)
		out = append(out, edge-1, edge, edge+1, edge|1<<(7*size-1), 2*edge-1)
	}
	return out
}

// wrongNumbers are bytes that begin with no number, whatever most is.
func wrongNumbers() []string {
	out := []string{
		"", "\x80", "\xff", "\x80\x80", "\xac\x82", "\xff\xff\xff",
		"\x80\x00", "\x81\x00", "\xff\x00", "\xac\x82\x00", "\x80\x80\x00", "\x80\x00\x05", "\x81\x00\x01",
	}
	for size := range 12 {
		out = append(out, strings.Repeat("\x80", size)+"\x80", strings.Repeat("\xff", size)+"\x80\x00")
	}
	// Ten bytes and more, whatever the last one is.
	for _, size := range []int{9, 10, 11, 20, 1000} {
		for _, end := range []string{"\x00", "\x01", "\x7f", "\x01\x01"} {
			out = append(out, strings.Repeat("\x80", size)+end, strings.Repeat("\xff", size)+end, "\x85"+strings.Repeat("\x80", size-1)+end)
		}
	}
	return out
}

// smallBytes are all lists of at most four bytes out of those with which a number's reading may turn.
func smallBytes() [][]byte {
	out := [][]byte{nil}
	for i := 0; i < len(out); i++ {
		if len(out[i]) == 4 {
			continue
		}
		for _, c := range []byte{0, 1, 2, 3, 0x7f, 0x80, 0x81, 0xff} {
			out = append(out, append(slices.Clone(out[i]), c))
		}
	}
	return out
}

// lookNumber is the tests' own reading of a number: the library's, but for what that one takes beyond the shortest form.
func lookNumber(p []byte) (n, size int, ok bool) {
	u, size := binary.Uvarint(p)
	if size <= 0 || u > math.MaxInt || size > 1 && p[size-1] == 0 {
		return 0, 0, false
	}
	return int(u), size, true
}

func wantWhy(t *testing.T, r *Reader, e api.Errno, place int) {
	t.Helper()
	if got, at := r.Why(); got != e || at != place {
		t.Errorf("Why: %d %d, not %d %d", got, at, e, place)
	}
}

func wantStand(t *testing.T, r *Reader, at, left int) {
	t.Helper()
	if r.At() != at || r.Left() != left {
		t.Errorf("At %d, Left %d; not %d, %d", r.At(), r.Left(), at, left)
	}
}

// wantShut asks for all that holds of a reader of so many bytes that has the error e at that place.
func wantShut(t *testing.T, r *Reader, e api.Errno, place, size int) {
	t.Helper()
	for range 2 {
		wantWhy(t, r, e, place)
		wantStand(t, r, place, size-place)
		if got := r.Done(); got != e {
			t.Errorf("Done: %d, not %d", got, e)
		}
		if n := r.Num(); n != 0 {
			t.Errorf("Num behind the error: %d", n)
		}
		if n := r.Count(-1); n != 0 {
			t.Errorf("Count behind the error: %d", n)
		}
		if n := r.Count(math.MaxInt); n != 0 {
			t.Errorf("Count behind the error: %d", n)
		}
		if s := r.Text(-1); s != "" {
			t.Errorf("Text behind the error: %q", s)
		}
		if s := r.Text(math.MaxInt); s != "" {
			t.Errorf("Text behind the error: %q", s)
		}
	}
}

// P3.1

func TestPut(t *testing.T) {
	for _, c := range []struct {
		b    string
		l    []int
		want string
	}{
		{"", nil, ""},
		{"ab", nil, "ab"},
		{"", []int{300, 5}, "\xac\x02\x05"},
		{"", []int{0}, "\x00"},
		{"", []int{0, 0, 0}, "\x00\x00\x00"},
		{"", []int{1, 127, 128, 129}, "\x01\x7f\x80\x01\x81\x01"},
		{"", []int{255, 256, 16383, 16384}, "\xff\x01\x80\x02\xff\x7f\x80\x80\x01"},
		{"", []int{math.MaxInt}, "\xff\xff\xff\xff\xff\xff\xff\xff\x7f"},
		{"", []int{1 << 62}, "\x80\x80\x80\x80\x80\x80\x80\x80\x40"},
		{"", []int{-1, math.MinInt, -128, -300}, "\x00\x00\x00\x00"},
		{"\x80", []int{1}, "\x80\x01"},
		{"x\x00", []int{-5, 300}, "x\x00\x00\xac\x02"},
	} {
		if got := Put([]byte(c.b), c.l...); string(got) != c.want {
			t.Errorf("Put(%q, %v): %x, not %x", c.b, c.l, got, c.want)
		}
	}
	if got := Put(nil, 7); string(got) != "\x07" {
		t.Errorf("Put of nothing: %x", got)
	}
}

func TestPutIsTheLibrarysForm(t *testing.T) {
	for _, n := range someNumbers() {
		if got, want := Put(nil, n), binary.AppendUvarint(nil, uint64(n)); !bytes.Equal(got, want) {
			t.Errorf("Put of %d: %x, not %x", n, got, want)
		}
	}
}

func TestPutText(t *testing.T) {
	long := strings.Repeat("q", 127)
	for _, c := range []struct {
		b    string
		l    []string
		want string
	}{
		{"", nil, ""},
		{"ab", nil, "ab"},
		{"", []string{"ab"}, "\x02ab"},
		{"x", []string{"ab"}, "x\x02ab"},
		{"", []string{""}, "\x00"},
		{"", []string{"", "", "a"}, "\x00\x00\x01a"},
		{"", []string{"ä", "\x00", "\xff\x80"}, "\x02ä\x01\x00\x02\xff\x80"},
		{"", []string{long}, "\x7f" + long},
		{"", []string{long + "r"}, "\x80\x01" + long + "r"},
		{"\x02", []string{long + long + "rs", "b"}, "\x02\x80\x02" + long + long + "rs\x01b"},
	} {
		if got := PutText([]byte(c.b), c.l...); string(got) != c.want {
			t.Errorf("PutText(%q, %q): %x, not %x", c.b, c.l, got, c.want)
		}
	}
}

func TestPutIsNewMemory(t *testing.T) {
	puts := map[string]func(b []byte) []byte{
		"Put of none":     func(b []byte) []byte { return Put(b) },
		"Put":             func(b []byte) []byte { return Put(b, 1, 300) },
		"PutText of none": func(b []byte) []byte { return PutText(b) },
		"PutText":         func(b []byte) []byte { return PutText(b, "cd", "") },
	}
	for name, put := range puts {
		room := []byte("ab......")
		got := put(room[:2])
		if string(room) != "ab......" {
			t.Errorf("%s changed what it was given or the room behind it: %q", name, room)
		}
		want := string(got)
		for i := range room {
			room[i] = '#'
		}
		if string(got) != want {
			t.Errorf("%s keeps what it was given: %q", name, got)
		}
		again := put([]byte("ab"))
		for i := range got {
			got[i] = '#'
		}
		if string(again) != want {
			t.Errorf("%s: two answers share memory: %q, not %q", name, again, want)
		}
	}
}

func TestPutLeavesItsNumbers(t *testing.T) {
	numbers, texts := []int{-1, 5}, []string{"a", "b"}
	Put(nil, numbers...)
	PutText(nil, texts...)
	if !slices.Equal(numbers, []int{-1, 5}) || !slices.Equal(texts, []string{"a", "b"}) {
		t.Errorf("changed: %v %v", numbers, texts)
	}
}

func TestSize(t *testing.T) {
	for n, want := range map[int]int{
		0: 1, 1: 1, 127: 1, 128: 2, 300: 2, 16383: 2, 16384: 3, 1<<21 - 1: 3, 1 << 21: 4, 1<<28 - 1: 4, 1 << 28: 5,
		1<<35 - 1: 5, 1 << 35: 6, api.MaxCount: 6, 1<<42 - 1: 6, 1 << 42: 7, 1<<49 - 1: 7, 1 << 49: 8, 1<<56 - 1: 8, 1 << 56: 9, math.MaxInt: 9,
		-1: 1, -4: 1, -128: 1, -1000000: 1, math.MinInt: 1,
	} {
		if got := Size(n); got != want {
			t.Errorf("Size(%d): %d, not %d", n, got, want)
		}
	}
	for _, n := range someNumbers() {
		if Size(n) != len(Put(nil, n)) || Size(-n) != len(Put(nil, -n)) {
			t.Errorf("Size(%d): %d, %d", n, Size(n), Size(-n))
		}
	}
}

// P3.2

func TestNew(t *testing.T) {
	for _, p := range []string{"", "\x00", "\x80", "abc", "\xff\xff\xff"} {
		r := New([]byte(p))
		wantStand(t, r, 0, len(p))
		wantWhy(t, r, api.OK, 0)
	}
	if r := New(nil); r == nil || r.Left() != 0 || r.Done() != api.OK {
		t.Error("a reader of no bytes")
	}
	// Unlike a nil reader, one of no bytes errs.
	r := New(nil)
	if r.Num() != 0 {
		t.Error("a number of no bytes")
	}
	wantShut(t, r, api.ErrForm, 0, 0)
}

func TestNewReadsTheBytesOfThen(t *testing.T) {
	room := []byte("\x05\x02ab\x07\x09")
	r := New(room[:5])
	for i := range room {
		room[i] = 0x80
	}
	if r.Num() != 5 || r.Text(2) != "ab" || r.Num() != 7 || r.Done() != api.OK {
		t.Error("the reader keeps what it was given")
	}
	if r.Num() != 0 {
		t.Error("the reader reads the room behind the bytes")
	}
	wantShut(t, r, api.ErrForm, 5, 5)

	given := []byte("\x02ab")
	q := New(given)
	q.Text(9)
	q.Num()
	if string(given) != "\x02ab" {
		t.Errorf("changed: %q", given)
	}
}

func TestReadersStandAlone(t *testing.T) {
	given := []byte{1, 2, 0x80}
	a, b := New(given), New(given)
	a.Num()
	a.Num()
	a.Num()
	wantStand(t, b, 0, 3)
	wantWhy(t, b, api.OK, 0)
	if b.Num() != 1 || b.Num() != 2 {
		t.Error("the second reader")
	}
}

func TestTheFirstErrorStays(t *testing.T) {
	// A number that is too great for the first call would be right for the later ones.
	r := New([]byte("\x01\x09\x05"))
	if r.Num() != 1 || r.Count(8) != 0 {
		t.Error("the values ahead of the error")
	}
	wantShut(t, r, api.ErrLong, 1, 3)

	// A text's place is where its count begins.
	r = New([]byte("\x02ab\x03cd"))
	if r.Text(9) != "ab" || r.Text(9) != "" {
		t.Error("the values ahead of the error")
	}
	wantShut(t, r, api.ErrForm, 3, 6)

	r = New([]byte("\x02ab\xac\x02cd"))
	if r.Text(9) != "ab" || r.Text(299) != "" {
		t.Error("the values ahead of the error")
	}
	wantShut(t, r, api.ErrLong, 3, 7)

	// ErrForm stays where ErrLong would come, and the other way round.
	r = New([]byte("\x80\x00\x05"))
	r.Num()
	r.Count(-1)
	wantShut(t, r, api.ErrForm, 0, 3)
	r = New([]byte("\x05\x80"))
	r.Count(4)
	r.Num()
	wantShut(t, r, api.ErrLong, 0, 2)
}

// P3.3

func TestNum(t *testing.T) {
	for _, n := range someNumbers() {
		for _, behind := range []string{"", "\x00", "\x80", "\xff\xff"} {
			p := binary.AppendUvarint([]byte{0x2a}, uint64(n))
			size := len(p)
			p = append(p, behind...)
			r := New(p)
			if r.Num() != 42 {
				t.Error("the number ahead")
			}
			if got := r.Num(); got != n {
				t.Errorf("Num of %x: %d, not %d", p, got, n)
			}
			wantStand(t, r, size, len(behind))
			wantWhy(t, r, api.OK, 0)
		}
	}
}

func TestNumOfWrongBytes(t *testing.T) {
	for _, p := range wrongNumbers() {
		for _, ahead := range []string{"", "\x05", "\xac\x02"} {
			r := New([]byte(ahead + p))
			if ahead != "" && r.Num() == 0 {
				t.Error("the number ahead")
			}
			if got := r.Num(); got != 0 {
				t.Errorf("Num of %x: %d", p, got)
			}
			wantShut(t, r, api.ErrForm, len(ahead), len(ahead)+len(p))
		}
	}
}

func TestCount(t *testing.T) {
	for _, c := range []struct {
		p       string
		most, n int
		e       api.Errno
	}{
		{"\x08", 8, 8, api.OK},
		{"\x08", 9, 8, api.OK},
		{"\x08", math.MaxInt, 8, api.OK},
		{"\x09", 8, 0, api.ErrLong},
		{"\x00", 0, 0, api.OK},
		{"\x01", 0, 0, api.ErrLong},
		{"\x00", -1, 0, api.ErrLong},
		{"\x00", math.MinInt, 0, api.ErrLong},
		{"\xac\x02", 300, 300, api.OK},
		{"\xac\x02", 299, 0, api.ErrLong},
		{"\xff\xff\xff\xff\xff\xff\xff\xff\x7f", math.MaxInt, math.MaxInt, api.OK},
		{"\xff\xff\xff\xff\xff\xff\xff\xff\x7f", math.MaxInt - 1, 0, api.ErrLong},
	} {
		r := New([]byte(c.p))
		if got := r.Count(c.most); got != c.n {
			t.Errorf("Count(%d) of %x: %d, not %d", c.most, c.p, got, c.n)
		}
		if c.e != api.OK {
			wantShut(t, r, c.e, 0, len(c.p))
			continue
		}
		wantStand(t, r, len(c.p), 0)
		wantWhy(t, r, api.OK, 0)
	}
}

func TestCountAndTextOfWrongNumbers(t *testing.T) {
	for _, p := range wrongNumbers() {
		for _, most := range []int{math.MinInt, -1, 0, 1, 300, math.MaxInt} {
			r := New([]byte(p))
			if got := r.Count(most); got != 0 {
				t.Errorf("Count(%d) of %x: %d", most, p, got)
			}
			// What is no number is not too great either.
			wantShut(t, r, api.ErrForm, 0, len(p))
			r = New([]byte(p))
			if got := r.Text(most); got != "" {
				t.Errorf("Text(%d) of %x: %q", most, p, got)
			}
			wantShut(t, r, api.ErrForm, 0, len(p))
		}
	}
}

func TestText(t *testing.T) {
	long := strings.Repeat("q", 300)
	for _, c := range []struct {
		p    string
		most int
		s    string
		left int
		e    api.Errno
	}{
		{"\x02ab", 2, "ab", 0, api.OK},
		{"\x02ab", 3, "ab", 0, api.OK},
		{"\x02abc", 2, "ab", 1, api.OK},
		{"\x02ab", math.MaxInt, "ab", 0, api.OK},
		{"\x02ab", 1, "", 3, api.ErrLong},
		{"\x02ab", 0, "", 3, api.ErrLong},
		{"\x02ab", -1, "", 3, api.ErrLong},
		{"\x02a", 2, "", 2, api.ErrForm},
		{"\x02", 2, "", 1, api.ErrForm},
		// Too great is told ahead of too few bytes.
		{"\x02a", 1, "", 2, api.ErrLong},
		{"\x02", -1, "", 1, api.ErrLong},
		{"\x00", 0, "", 0, api.OK},
		{"\x00ab", 5, "", 2, api.OK},
		{"\x00", -1, "", 1, api.ErrLong},
		{"\x04\x00\xff\x80\n", 4, "\x00\xff\x80\n", 0, api.OK},
		{"\xac\x02" + long, 300, long, 0, api.OK},
		{"\xac\x02" + long, 299, "", 302, api.ErrLong},
		{"\xac\x02" + long[1:], 300, "", 301, api.ErrForm},
		{"\xff\xff\xff\xff\xff\xff\xff\xff\x7fab", math.MaxInt, "", 11, api.ErrForm},
		{"\xfe\xff\xff\xff\xff\xff\xff\xff\x7fab", math.MaxInt, "", 11, api.ErrForm},
		{"\xff\xff\xff\xff\xff\xff\xff\xff\x7fab", 1 << 40, "", 11, api.ErrLong},
	} {
		r := New([]byte(c.p))
		if got := r.Text(c.most); got != c.s {
			t.Errorf("Text(%d) of %x: %q, not %q", c.most, c.p, got, c.s)
		}
		if c.e != api.OK {
			wantShut(t, r, c.e, 0, len(c.p))
			continue
		}
		wantStand(t, r, len(c.p)-c.left, c.left)
		wantWhy(t, r, api.OK, 0)
	}
}

func TestReadingAllSmallBytes(t *testing.T) {
	for _, p := range smallBytes() {
		n, size, ok := lookNumber(p)
		for most := -1; most < 5; most++ {
			r := New(p)
			got := r.Count(most)
			switch {
			case !ok:
				wantShut(t, r, api.ErrForm, 0, len(p))
			case n > most:
				wantShut(t, r, api.ErrLong, 0, len(p))
			case got != n || r.At() != size:
				t.Errorf("Count(%d) of %x: %d, At %d", most, p, got, r.At())
			}
			r = New(p)
			text := r.Text(most)
			switch {
			case !ok:
				wantShut(t, r, api.ErrForm, 0, len(p))
			case n > most:
				wantShut(t, r, api.ErrLong, 0, len(p))
			case n > len(p)-size:
				wantShut(t, r, api.ErrForm, 0, len(p))
			case text != string(p[size:size+n]) || r.At() != size+n:
				t.Errorf("Text(%d) of %x: %q, At %d", most, p, text, r.At())
			}
		}
		if r := New(p); r.Num() != n || r.At() != size || (r.Done() == api.ErrForm) == ok {
			t.Errorf("Num of %x: At %d, Done %d", p, r.At(), r.Done())
		}
	}
}

// P3.4

func TestWhereAReaderStands(t *testing.T) {
	r := New([]byte("\xac\x02\x02ab\x00\x07"))
	for _, step := range []struct {
		read     func()
		at, left int
		done     api.Errno
	}{
		{func() {}, 0, 7, api.ErrState},
		{func() { r.Num() }, 2, 5, api.ErrState},
		{func() { r.Text(5) }, 5, 2, api.ErrState},
		{func() { r.Text(5) }, 6, 1, api.ErrState},
		{func() { r.Count(7) }, 7, 0, api.OK},
	} {
		step.read()
		wantStand(t, r, step.at, step.left)
		wantWhy(t, r, api.OK, 0)
		if got := r.Done(); got != step.done {
			t.Errorf("Done at %d: %d, not %d", step.at, got, step.done)
		}
	}
	if r.Num() != 0 {
		t.Error("a number behind the end")
	}
	wantShut(t, r, api.ErrForm, 7, 7)
}

func TestDoneWithBytesLeftIsNoError(t *testing.T) {
	r := New([]byte{1, 2})
	if r.Done() != api.ErrState || r.Done() != api.ErrState {
		t.Error("bytes are left")
	}
	wantWhy(t, r, api.OK, 0)
	if r.Num() != 1 || r.Done() != api.ErrState || r.Num() != 2 || r.Done() != api.OK || r.Done() != api.OK {
		t.Error("the reader goes on behind Done")
	}
}

func TestDoneTellsTheErrorAheadOfWhatIsLeft(t *testing.T) {
	r := New([]byte("\x80\x00"))
	r.Num()
	if r.Done() != api.ErrForm {
		t.Errorf("Done: %d", r.Done())
	}
	r = New([]byte("\x05"))
	r.Text(4)
	if r.Done() != api.ErrLong {
		t.Errorf("Done: %d", r.Done())
	}
}

func TestANilReader(t *testing.T) {
	var r *Reader
	for range 2 {
		if r.Num() != 0 || r.Count(-1) != 0 || r.Count(9) != 0 || r.Text(-1) != "" || r.Text(9) != "" {
			t.Error("what a nil reader reads")
		}
		wantStand(t, r, 0, 0)
		wantWhy(t, r, api.OK, 0)
		if r.Done() != api.OK {
			t.Errorf("Done: %d", r.Done())
		}
	}
}

// P3.5

func TestWhatWasPutIsReadBack(t *testing.T) {
	numbers := someNumbers()
	r := New(Put(nil, numbers...))
	for _, n := range numbers {
		if got := r.Num(); got != n {
			t.Errorf("%d is read back as %d", n, got)
		}
	}
	if r.Done() != api.OK {
		t.Errorf("Done: %d", r.Done())
	}

	var texts []string
	for size := range 400 {
		texts = append(texts, strings.Repeat("\xff", size))
	}
	texts = append(texts, strings.Repeat("ab", api.MaxLoad), "\x80\x00")
	r = New(PutText(nil, texts...))
	for _, s := range texts {
		if got := r.Text(len(s)); got != s {
			t.Errorf("%q is read back as %q", s, got)
		}
	}
	if r.Done() != api.OK {
		t.Errorf("Done: %d", r.Done())
	}

	r = New(PutText(Put(PutText(nil, "a"), 300, -5), "", "bc"))
	if r.Text(1) != "a" || r.Num() != 300 || r.Num() != 0 || r.Text(0) != "" || r.Text(2) != "bc" || r.Done() != api.OK {
		t.Error("numbers and texts by turns")
	}
}

// P3.6

func TestWhatIsTakenIsWhatIsPut(t *testing.T) {
	for _, p := range smallBytes() {
		r := New(p)
		n := r.Num()
		e, _ := r.Why()
		if e == api.OK && !bytes.Equal(Put(nil, n), p[:r.At()]) {
			t.Errorf("Num takes %x as %d, which is put as %x", p[:r.At()], n, Put(nil, n))
		}
		r = New(p)
		s := r.Text(math.MaxInt)
		e, _ = r.Why()
		if e == api.OK && !bytes.Equal(PutText(nil, s), p[:r.At()]) {
			t.Errorf("Text takes %x as %q, which is put as %x", p[:r.At()], s, PutText(nil, s))
		}
	}
}

func FuzzReadBack(f *testing.F) {
	for _, p := range append(wrongNumbers(), "\xac\x02\x05", "\x02ab", "\x02ab\x80\x00", "\x00\x00\x01a") {
		f.Add([]byte(p), 300, uint64(5))
	}
	f.Fuzz(func(t *testing.T, p []byte, most int, turns uint64) {
		r := New(p)
		var back []byte
		for {
			at := r.At()
			asText := turns&1 == 1
			turns = turns>>1 | turns<<63
			n, size, ok := lookNumber(p[at:])
			want := api.OK
			switch {
			case !ok:
				want = api.ErrForm
			case n > most:
				want = api.ErrLong
			case asText && n > len(p)-at-size:
				want = api.ErrForm
			}
			if asText {
				back = PutText(back, r.Text(most))
			} else {
				back = Put(back, r.Count(most))
			}
			if want != api.OK {
				wantShut(t, r, want, at, len(p))
				return
			}
			if !bytes.Equal(back, p[:r.At()]) || r.At() <= at || r.At()+r.Left() != len(p) {
				t.Fatalf("%x is read to %d, and is put as %x", p, r.At(), back)
			}
		}
	})
}
