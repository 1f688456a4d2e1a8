package seal

import (
	"bytes"
	"encoding/binary"
	"hash/crc32"
	"math"
	"math/rand"
	"slices"
	"strings"
	"testing"

	"topiary/api"
)

// lookFrame is the tests' own frame, of any kind and with any size written in it, its sum the library's.
func lookFrame(kind byte, size uint32, load []byte) []byte {
	p := binary.LittleEndian.AppendUint32([]byte{kind}, size)
	p = append(p, load...)
	return binary.LittleEndian.AppendUint32(p, crc32.ChecksumIEEE(p))
}

// someBytes are so many bytes, the same ones each time.
func someBytes(size int, seed int64) []byte {
	p := make([]byte, size)
	rand.New(rand.NewSource(seed)).Read(p)
	return p
}

func someLoads() [][]byte {
	out := [][]byte{nil, {}, {0}, {0xff}, []byte("a"), []byte("abc"), make([]byte, 32), bytes.Repeat([]byte{0xff}, 32)}
	for _, size := range []int{1, 2, 3, 4, 5, 9, 15, 16, 255, 256, 257, 1000, api.MaxLoad - 1, api.MaxLoad} {
		out = append(out, someBytes(size, int64(size)))
	}
	return out
}

func mustSeal(t testing.TB, kind int, load []byte) []byte {
	t.Helper()
	p, e := Seal(kind, load)
	if e != api.OK {
		t.Fatalf("Seal(%d, %d bytes): %d", kind, len(load), e)
	}
	return p
}

// wantRefused asks that Open tells the error e of p, and nothing beside it.
func wantRefused(t testing.TB, name string, p []byte, e api.Errno) {
	t.Helper()
	kind, load, got := Open(p)
	if got != e || kind != 0 || len(load) != 0 {
		t.Errorf("%s: Open of %.40x: %d %x %d, not %d", name, p, kind, load, got, e)
	}
}

func wantSomehowRefused(t *testing.T, name string, p []byte) {
	t.Helper()
	kind, load, e := Open(p)
	if e != api.ErrForm && e != api.ErrSum || kind != 0 || len(load) != 0 {
		t.Errorf("%s: Open of %.40x: %d %x %d", name, p, kind, load, e)
	}
}

// P4.1

func TestSum(t *testing.T) {
	for text, want := range map[string]uint32{
		"":             0,
		"a":            0xe8b7be43,
		"abc":          0x352441c2,
		"123456789":    0xcbf43926,
		"\x00":         0xd202ef8d,
		"\xff":         0xff000000,
		"\x00\x00\x00": 0xff41d912,
		"The quick brown fox jumps over the lazy dog": 0x414fa339,
	} {
		if got := Sum([]byte(text)); got != want {
			t.Errorf("Sum of %q: %x, not %x", text, got, want)
		}
	}
}

func TestSumIsTheLibrarys(t *testing.T) {
	for c := range 256 {
		p := []byte{byte(c)}
		if got, want := Sum(p), crc32.ChecksumIEEE(p); got != want {
			t.Errorf("Sum of %x: %x, not %x", p, got, want)
		}
	}
	for _, p := range someLoads() {
		if got, want := Sum(p), crc32.ChecksumIEEE(p); got != want {
			t.Errorf("Sum of %d bytes: %x, not %x", len(p), got, want)
		}
	}
}

func TestSumOfManyLists(t *testing.T) {
	if Sum() != 0 || Sum(nil) != 0 || Sum(nil, []byte{}, nil) != 0 {
		t.Error("Sum of nothing")
	}
	p := []byte("123456789")
	for i := range len(p) + 1 {
		for j := i; j <= len(p); j++ {
			if got := Sum(p[:i], p[i:j], p[j:]); got != 0xcbf43926 {
				t.Errorf("Sum of three lists, cut at %d and %d: %x", i, j, got)
			}
		}
	}
	if got := Sum(nil, p[:4], nil, []byte{}, p[4:], nil); got != 0xcbf43926 {
		t.Errorf("Sum with empty lists between: %x", got)
	}
	var ones [][]byte
	for i := range p {
		ones = append(ones, p[i:i+1])
	}
	if got := Sum(ones...); got != 0xcbf43926 {
		t.Errorf("Sum of nine lists: %x", got)
	}
	// The lists' order counts, and how often one comes.
	a, b := []byte("ab"), []byte("c")
	if Sum(b, a) != crc32.ChecksumIEEE([]byte("cab")) || Sum(a, b, a) != crc32.ChecksumIEEE([]byte("abcab")) {
		t.Error("Sum of lists in another order")
	}
}

func TestSumLeavesItsLists(t *testing.T) {
	room := []byte("abcdef")
	lists := [][]byte{room[:2], room[1:3]}
	if Sum(lists...) != crc32.ChecksumIEEE([]byte("abbc")) {
		t.Error("Sum of two lists that share bytes")
	}
	if string(room) != "abcdef" || string(lists[0]) != "ab" || string(lists[1]) != "bc" {
		t.Errorf("changed: %q %q", room, lists)
	}
}

// P4.2

func TestSeal(t *testing.T) {
	for _, c := range []struct {
		kind int
		load string
		want string
	}{
		{2, "a", "\x02\x01\x00\x00\x00a"},
		{1, "", "\x01\x00\x00\x00\x00"},
		{15, "\x00\xff", "\x0f\x02\x00\x00\x00\x00\xff"},
		{3, strings.Repeat("q", 255), "\x03\xff\x00\x00\x00" + strings.Repeat("q", 255)},
		{3, strings.Repeat("q", 256), "\x03\x00\x01\x00\x00" + strings.Repeat("q", 256)},
		{9, strings.Repeat("q", 0x1234), "\x09\x34\x12\x00\x00" + strings.Repeat("q", 0x1234)},
		{7, strings.Repeat("q", 65535), "\x07\xff\xff\x00\x00" + strings.Repeat("q", 65535)},
		{7, strings.Repeat("q", 65536), "\x07\x00\x00\x01\x00" + strings.Repeat("q", 65536)},
	} {
		sum := crc32.ChecksumIEEE([]byte(c.want))
		want := c.want + string([]byte{byte(sum), byte(sum >> 8), byte(sum >> 16), byte(sum >> 24)})
		got, e := Seal(c.kind, []byte(c.load))
		if string(got) != want || e != api.OK {
			t.Errorf("Seal(%d, %.9q): %.40x %d, not %.40x", c.kind, c.load, got, e, want)
		}
	}
}

func TestSealRefuses(t *testing.T) {
	most, tooLong := make([]byte, api.MaxLoad), make([]byte, api.MaxLoad+1)
	for _, c := range []struct {
		kind int
		load []byte
		e    api.Errno
	}{
		{0, nil, api.ErrRange},
		{16, nil, api.ErrRange},
		{-1, []byte("a"), api.ErrRange},
		{17, []byte("a"), api.ErrRange},
		{256 + 2, nil, api.ErrRange},
		{-254, nil, api.ErrRange},
		{1<<32 + 1, nil, api.ErrRange},
		{math.MinInt, nil, api.ErrRange},
		{math.MaxInt, nil, api.ErrRange},
		{1, most, api.OK},
		{15, most, api.OK},
		{1, tooLong, api.ErrLong},
		{15, tooLong, api.ErrLong},
		{8, make([]byte, 2*api.MaxLoad), api.ErrLong},
		// A kind out of its range is told ahead of a load that is too long.
		{0, tooLong, api.ErrRange},
		{16, tooLong, api.ErrRange},
		{-3, tooLong, api.ErrRange},
	} {
		p, e := Seal(c.kind, c.load)
		if e != c.e || e != api.OK && len(p) != 0 {
			t.Errorf("Seal(%d, %d bytes): %d bytes, %d, not %d", c.kind, len(c.load), len(p), e, c.e)
		}
	}
}

func TestOpen(t *testing.T) {
	for kind := 1; kind <= 15; kind++ {
		for _, load := range []string{"", "a", "\x00", "\x00\x00\x00\x00", "load of some bytes"} {
			p := lookFrame(byte(kind), uint32(len(load)), []byte(load))
			k, l, e := Open(p)
			if k != kind || string(l) != load || e != api.OK {
				t.Errorf("Open of %x: %d %x %d", p, k, l, e)
			}
		}
	}
	most := someBytes(api.MaxLoad, 3)
	if k, l, e := Open(lookFrame(4, api.MaxLoad, most)); k != 4 || !bytes.Equal(l, most) || e != api.OK {
		t.Errorf("Open of the longest frame: %d, %d bytes, %d", k, len(l), e)
	}
}

func TestOpenOfNoFrame(t *testing.T) {
	tooLong := make([]byte, api.MaxLoad+1)
	for _, c := range []struct {
		name string
		p    []byte
	}{
		{"nothing", nil},
		{"no bytes", []byte{}},
		{"one byte", []byte{1}},
		{"a head alone", []byte{1, 0, 0, 0, 0}},
		{"eight bytes", lookFrame(1, 0, nil)[:8]},
		{"eight noughts", make([]byte, 8)},
		{"nine noughts", make([]byte, 9)},
		{"kind 0", lookFrame(0, 1, []byte("a"))},
		{"kind 16", lookFrame(16, 1, []byte("a"))},
		{"kind 17", lookFrame(17, 1, []byte("a"))},
		{"kind 128", lookFrame(128, 0, nil)},
		{"kind 255", lookFrame(255, 0, nil)},
		{"a load longer than told", lookFrame(1, 1, []byte("ab"))},
		{"a load shorter than told", lookFrame(1, 3, []byte("ab"))},
		{"a load where none is told", lookFrame(1, 0, []byte("a"))},
		{"no load where one is told", lookFrame(1, 1, nil)},
		{"the size's second byte", lookFrame(1, 1<<8+2, []byte("ab"))},
		{"the size's third byte", lookFrame(1, 1<<16+2, []byte("ab"))},
		{"the size's highest byte", lookFrame(1, 1<<24+2, []byte("ab"))},
		{"the size's highest bit", lookFrame(1, 1<<31+2, []byte("ab"))},
		{"the greatest size", lookFrame(1, math.MaxUint32, []byte("ab"))},
		{"nine less than nothing", lookFrame(1, math.MaxUint32-8, nil)[:9]},
		{"the size's highest byte first", lookFrame(1, 2<<24, []byte("ab"))},
		{"a load above the limit", lookFrame(1, api.MaxLoad+1, tooLong)},
		{"a load far above the limit", lookFrame(1, 2*api.MaxLoad, make([]byte, 2*api.MaxLoad))},
		{"a load of the limit, told as one more", lookFrame(1, api.MaxLoad+1, tooLong[1:])},
		{"two frames", append(lookFrame(1, 1, []byte("a")), lookFrame(1, 1, []byte("a"))...)},
	} {
		wantRefused(t, c.name, c.p, api.ErrForm)
		if len(c.p) == 0 {
			continue
		}
		// What is no frame is told ahead of a sum that is another one.
		turned := slices.Clone(c.p)
		turned[len(turned)-1] ^= 0x10
		wantRefused(t, c.name+", turned", turned, api.ErrForm)
	}
}

func TestOpenOfAnotherSum(t *testing.T) {
	right := lookFrame(2, 3, []byte("abc"))
	for i := len(right) - 4; i < len(right); i++ {
		for mask := 1; mask < 256; mask++ {
			p := slices.Clone(right)
			p[i] ^= byte(mask)
			wantRefused(t, "the sum turned", p, api.ErrSum)
		}
	}
	for kind := byte(1); kind <= 15; kind++ {
		if kind == right[0] {
			continue
		}
		p := slices.Clone(right)
		p[0] = kind
		wantRefused(t, "another kind", p, api.ErrSum)
	}
	for i := 5; i < 8; i++ {
		p := slices.Clone(right)
		p[i]++
		wantRefused(t, "another load", p, api.ErrSum)
	}
	end := len(right) - 4
	p := append(slices.Clone(right[:end]), right[end+3], right[end+2], right[end+1], right[end])
	wantRefused(t, "the sum's highest byte first", p, api.ErrSum)
	p = binary.LittleEndian.AppendUint32(slices.Clone(right[:end]), crc32.ChecksumIEEE([]byte("abc")))
	wantRefused(t, "the sum of the load alone", p, api.ErrSum)
	p = binary.LittleEndian.AppendUint32(slices.Clone(right[:end]), ^crc32.ChecksumIEEE(right[:end]))
	wantRefused(t, "the sum's bits not turned at the end", p, api.ErrSum)
	p = append(slices.Clone(right[:end]), 0, 0, 0, 0)
	wantRefused(t, "no sum", p, api.ErrSum)
}

// P4.3

func TestSpoil(t *testing.T) {
	for _, c := range []struct {
		p        string
		at, mask int
		want     string
		e        api.Errno
	}{
		{"a", 0, 1, "\x60", api.OK},
		{"abc", 0, 1, "\x60bc", api.OK},
		{"abc", 1, 0x80, "a\xe2c", api.OK},
		{"abc", 2, 0xff, "ab\x9c", api.OK},
		{"\x00", 0, 0xff, "\xff", api.OK},
		{"\xff", 0, 0xff, "\x00", api.OK},
		{"\x0f", 0, 0x3c, "\x33", api.OK},
		// Of the mask only the lowest eight bits count.
		{"a", 0, 0x101, "\x60", api.OK},
		{"a", 0, 0x7fffffffffffff01, "\x60", api.OK},
		{"a", 0, math.MaxInt, "\x9e", api.OK},
		{"a", 0, -1, "\x9e", api.OK},
		{"a", 0, -255, "\x60", api.OK},
		{"a", 0, math.MinInt + 1, "\x60", api.OK},
		{"a", 0, 0, "", api.ErrState},
		{"a", 0, 0x100, "", api.ErrState},
		{"a", 0, -256, "", api.ErrState},
		{"a", 0, 1 << 40, "", api.ErrState},
		{"a", 0, math.MinInt, "", api.ErrState},
		{"a", 1, 1, "", api.ErrRange},
		{"a", -1, 1, "", api.ErrRange},
		{"a", 2, 1, "", api.ErrRange},
		{"a", math.MaxInt, 1, "", api.ErrRange},
		{"a", math.MinInt, 1, "", api.ErrRange},
		{"a", 1 << 32, 1, "", api.ErrRange},
		{"", 0, 1, "", api.ErrRange},
		{"", -1, 1, "", api.ErrRange},
		// A place at which there is no byte is told ahead of a mask that turns nothing.
		{"a", 1, 0, "", api.ErrRange},
		{"a", -1, 256, "", api.ErrRange},
		{"", 0, 0, "", api.ErrRange},
	} {
		got, e := Spoil([]byte(c.p), c.at, c.mask)
		if string(got) != c.want || e != c.e {
			t.Errorf("Spoil(%q, %d, %d): %x %d, not %x %d", c.p, c.at, c.mask, got, e, c.want, c.e)
		}
	}
	if got, e := Spoil(nil, 0, 1); len(got) != 0 || e != api.ErrRange {
		t.Errorf("Spoil of nothing: %x %d", got, e)
	}
}

func TestSpoilOfEachByte(t *testing.T) {
	p := someBytes(20, 5)
	for at := range p {
		for mask := 1; mask < 256; mask++ {
			want := slices.Clone(p)
			want[at] ^= byte(mask)
			got, e := Spoil(p, at, mask)
			if !bytes.Equal(got, want) || e != api.OK {
				t.Fatalf("Spoil at %d by %x: %x %d, not %x", at, mask, got, e, want)
			}
			if back, e := Spoil(got, at, mask); !bytes.Equal(back, p) || e != api.OK {
				t.Fatalf("Spoil again at %d by %x: %x %d", at, mask, back, e)
			}
		}
	}
}

// P4.4

func TestOpenOfSeal(t *testing.T) {
	for _, load := range someLoads() {
		for kind := 1; kind <= 15; kind++ {
			k, l, e := Open(mustSeal(t, kind, load))
			if k != kind || !bytes.Equal(l, load) || e != api.OK {
				t.Errorf("Open of Seal(%d, %d bytes): %d, %d bytes, %d", kind, len(load), k, len(l), e)
			}
		}
	}
}

// wantOnlySeals asks that Open takes p if Seal makes it, and only then.
func wantOnlySeals(t testing.TB, p []byte) {
	t.Helper()
	kind, load, e := Open(p)
	switch {
	case e == api.OK:
		if q := mustSeal(t, kind, load); !bytes.Equal(p, q) {
			t.Errorf("Open takes %x, but Seal makes %x", p, q)
		}
	case e != api.ErrForm && e != api.ErrSum || kind != 0 || len(load) != 0:
		t.Errorf("Open of %x: %d %x %d", p, kind, load, e)
	case len(p) >= 9:
		if q, e := Seal(int(p[0]), p[5:len(p)-4]); e == api.OK && bytes.Equal(p, q) {
			t.Errorf("Open refuses %x, which Seal makes", p)
		}
	}
}

func TestOpenTakesWhatSealMakes(t *testing.T) {
	// Each kind and size that one byte can tell, the sum as it must be, on loads of a few bytes.
	for size := range 4 {
		load := someBytes(size, 9)
		for kind := range 256 {
			for told := range 256 {
				wantOnlySeals(t, lookFrame(byte(kind), uint32(told), load))
			}
		}
	}
}

func FuzzOpen(f *testing.F) {
	f.Add([]byte{}, true)
	f.Add(lookFrame(1, 0, nil), false)
	f.Add(lookFrame(2, 1, []byte("a")), false)
	f.Add([]byte("\x0f\x04\x00\x00\x00load"), true)
	f.Add(lookFrame(16, 1, []byte("a")), false)
	f.Fuzz(func(t *testing.T, p []byte, summed bool) {
		// A right sum is hardly ever come upon.
		if summed {
			p = binary.LittleEndian.AppendUint32(slices.Clone(p), crc32.ChecksumIEEE(p))
		}
		wantOnlySeals(t, p)
	})
}

// P4.5

// turn tells p with those of 32 neighbouring bits turned that the mask has, the first of them at that bit; false if some lie behind p's end.
func turn(p []byte, first int, mask uint32) ([]byte, bool) {
	out := slices.Clone(p)
	for i := range 32 {
		if mask>>i&1 == 0 {
			continue
		}
		at := first + i
		if at/8 >= len(out) {
			return nil, false
		}
		out[at/8] ^= 1 << (at % 8)
	}
	return out, true
}

func TestTurnedBitsAreRefused(t *testing.T) {
	masks := []uint32{math.MaxUint32, 0x80000001, 0xedb88320, 0xedb88321, 0x04c11db7, 0xdb710641, 0xdb710640, 0xaaaaaaab, 0xff0000ff, 0xfffffffe}
	for mask := uint32(1); mask < 256; mask += 2 {
		masks = append(masks, mask)
	}
	random := rand.New(rand.NewSource(11))
	for range 300 {
		masks = append(masks, random.Uint32()|1)
	}
	for _, load := range [][]byte{nil, []byte("a"), []byte("abcdefgh"), make([]byte, 12), bytes.Repeat([]byte{0xff}, 7)} {
		p := mustSeal(t, 1+len(load), load)
		for first := range 8 * len(p) {
			for _, mask := range masks {
				if q, ok := turn(p, first, mask); ok {
					wantSomehowRefused(t, "bits turned", q)
				}
			}
		}
	}
}

func TestTurnedBitsOfALongFrameAreRefused(t *testing.T) {
	p := mustSeal(t, 5, someBytes(api.MaxLoad, 7))
	last := 8*len(p) - 32
	for _, first := range []int{0, 5, 8, 39, 40, 8 * 1000, last / 2, last - 31, last} {
		for _, mask := range []uint32{1, 0x80000001, math.MaxUint32, 0xedb88321} {
			q, ok := turn(p, first, mask)
			if !ok {
				t.Fatalf("no bits at %d", first)
			}
			wantSomehowRefused(t, "bits turned", q)
		}
	}
}

func TestASpoiltFrameIsRefused(t *testing.T) {
	p := mustSeal(t, 3, []byte("some load"))
	for at := range p {
		for mask := 1; mask < 256; mask++ {
			q, e := Spoil(p, at, mask)
			if e != api.OK {
				t.Fatalf("Spoil at %d by %x: %d", at, mask, e)
			}
			wantSomehowRefused(t, "a spoilt frame", q)
		}
	}
}

func TestAFrameCutShortOrLongerIsRefused(t *testing.T) {
	for _, load := range someLoads() {
		if len(load) > 1000 {
			continue
		}
		p := mustSeal(t, 6, load)
		for size := range p {
			wantRefused(t, "cut short", p[:size], api.ErrForm)
		}
		for _, behind := range []string{"\x00", "\xff", "a", "\x00\x00\x00\x00", string(p[:1]), string(p[len(p)-4:]), string(p)} {
			wantRefused(t, "bytes behind", append(slices.Clone(p), behind...), api.ErrForm)
		}
	}
	longest := mustSeal(t, 6, make([]byte, api.MaxLoad))
	wantRefused(t, "the longest, cut short", longest[:len(longest)-1], api.ErrForm)
	wantRefused(t, "the longest, a byte behind", append(slices.Clone(longest), 0), api.ErrForm)
}

// Rule 3

func TestNewMemory(t *testing.T) {
	frame := string(lookFrame(2, 2, []byte("ab")))
	calls := map[string]struct {
		given string
		call  func(p []byte) []byte
	}{
		"Seal":  {"ab", func(p []byte) []byte { q, _ := Seal(2, p); return q }},
		"Open":  {frame, func(p []byte) []byte { _, q, _ := Open(p); return q }},
		"Spoil": {"ab", func(p []byte) []byte { q, _ := Spoil(p, 1, 1); return q }},
	}
	for name, c := range calls {
		room := []byte(c.given + "................")
		whole := string(room)
		got := c.call(room[:len(c.given)])
		if string(room) != whole {
			t.Errorf("%s changed what it was given or the room behind it: %q", name, room)
		}
		want := string(got)
		for i := range room {
			room[i] = '#'
		}
		if want == "" || string(got) != want {
			t.Errorf("%s keeps what it was given: %q", name, got)
		}
		again := c.call([]byte(c.given))
		for i := range got {
			got[i] = '#'
		}
		if string(again) != want {
			t.Errorf("%s: two answers share memory: %q, not %q", name, again, want)
		}
		// What is put behind an answer does not come to stand in an argument.
		given := []byte(c.given + "................")
		got = c.call(given[:len(c.given)])
		_ = append(got, "####"...)
		if string(given) != c.given+"................" {
			t.Errorf("%s answers a piece of what it was given: %q", name, given)
		}
	}
}

func TestRefusedCallsChangeNothing(t *testing.T) {
	p := []byte("\x01\x01\x00\x00\x00a----")
	before := string(p)
	wantRefused(t, "another sum", p, api.ErrSum)
	Spoil(p, 99, 1)
	Spoil(p, 0, 0)
	Seal(0, p)
	if string(p) != before {
		t.Errorf("changed: %q", p)
	}
}
