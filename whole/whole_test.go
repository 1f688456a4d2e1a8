package whole

import (
	"math"
	"regexp"
	"strconv"
	"strings"
	"testing"
)

func TestReadOfWhatIsWritten(t *testing.T) {
	for _, n := range []int{0, 1, -1, 9, 10, 11, 99, 100, -10, 1 << 40, 1<<40 + 1, math.MaxInt - 1, math.MaxInt, math.MinInt, math.MinInt + 1} {
		if got, ok := Read(strconv.Itoa(n)); got != n || !ok {
			t.Errorf("%d: %d %v", n, got, ok)
		}
	}
}

func TestReadRefuses(t *testing.T) {
	for _, s := range []string{
		"", "-", "+", "+1", "+0", "-0", "--1", "00", "01", "-01", "1-", "1+",
		" 1", "1 ", "1\n", "1\x00", "1.0", "1,0", "1_0", "0x1", "0b1", "0o1", "1e3", "a", "one", "\u0661", "\uff11", "\xff",
		"9223372036854775808", "-9223372036854775809", "18446744073709551616", "18446744073709551617",
		strings.Repeat("9", 100000), strings.Repeat("0", 100000) + "1", "-" + strings.Repeat("0", 100000),
	} {
		if got, ok := Read(s); got != 0 || ok {
			t.Errorf("%.40q: %d %v", s, got, ok)
		}
	}
}

// Whatever short text there is: it is read just if some number is written so.
func TestReadReadsJustTexts(t *testing.T) {
	const signs, longest = "0129-+_ ", 4
	form := regexp.MustCompile(`^(0|-?[1-9][0-9]*)$`)
	texts := []string{""}
	for i := 0; i < len(texts); i++ {
		s := texts[i]
		got, ok := Read(s)
		if ok != form.MatchString(s) || ok && strconv.Itoa(got) != s || !ok && got != 0 {
			t.Errorf("%q: %d %v", s, got, ok)
		}
		if len(s) == longest {
			continue
		}
		for _, sign := range signs {
			texts = append(texts, s+string(sign))
		}
	}
}
