package num_test

import (
	"math"
	"regexp"
	"strings"
	"testing"

	"usance/api"
	"usance/num"
)

// P1.5
func TestShow(t *testing.T) {
	for a, want := range map[int64]string{
		0: "0", 1: "0.000001", -1: "-0.000001", 10: "0.00001", 100: "0.0001", 100000: "0.1", -500000: "-0.5", 999999: "0.999999",
		1000000: "1", -1000000: "-1", 3000000: "3", 10000000: "10", -1500000: "-1.5", 1000001: "1.000001", 1010100: "1.0101",
		1234567: "1.234567", 100200300: "100.2003", most - 1: "999999999.999999", most: "1000000000", -most: "-1000000000",
		most + 1: "1000000000", math.MaxInt64: "1000000000", math.MinInt64: "-1000000000",
	} {
		if got := num.Show(a); got != want {
			t.Errorf("Show(%d): %q, want %q", a, got, want)
		}
	}
}

// P1.5
func TestParseNumbers(t *testing.T) {
	for s, want := range map[string]int64{
		"0": 0, "0.0": 0, "0.000000": 0, "7": 7000000, "10": 10000000, "1.5": 1500000, "1.50": 1500000, "1.500000": 1500000,
		"0.000001": 1, "-0.000001": -1, "0.1": 100000, "0.05": 50000, "-0.5": -500000, "-1": -1000000, "-10.01": -10010000,
		"123456789.987654": 123456789987654, "999999999.999999": most - 1, "-999999999.999999": 1 - most,
		"1000000000": most, "1000000000.0": most, "1000000000.000000": most, "-1000000000": -most, "-1000000000.000000": -most,
	} {
		if n, ok := num.Parse(s); n != want || !ok {
			t.Errorf("Parse(%q): %d %t, want %d", s, n, ok, want)
		}
	}
}

// P1.5
func TestParseOtherTexts(t *testing.T) {
	for _, s := range []string{
		"", "-", ".", "-.", ".5", "-.5", "1.", "-1.", "0.", "1..5", "1.5.", "1.2.3", "1,5", "1.5-", "1-5", "1.-5",
		"01", "00", "-01", "00.5", "01.5", "0000000001", "-0", "-0.0", "-0.000000", "--1", "+1", "-+1", "- 1",
		"1.0000000", "1.2345678", "0.0000001", "1000000000.000001", "-1000000000.000001", "1000000001", "-1000000001",
		"9999999999", "9999999999.999999", "10000000000", "00000000001", "18446744073709551616", "18446744073710",
		" 1", "1 ", "1\n", "1\x00", "\x001", "1e3", "0x1", "1_000", "a", "1a", "1.a", "1.5a", "NaN", "inf", "/", ":", "1:", "1./", "1.:",
		"\u0661", "1.\u0661", "\uff11", "\u22121", "\xff", "1\xff", "1.\xff",
		strings.Repeat("1", 1<<16), "1." + strings.Repeat("0", 1<<16), strings.Repeat(".", 1<<16), strings.Repeat("-", 1<<16),
	} {
		if n, ok := num.Parse(s); n != 0 || ok {
			t.Errorf("Parse(%.40q): %d %t", s, n, ok)
		}
	}
}

// P1.5: all short texts of some bytes, held against the form that the promise tells.
func TestParseShortTexts(t *testing.T) {
	form := regexp.MustCompile(`^-?(0|[1-9][0-9]{0,9})(\.[0-9]{1,6})?$`)
	nought := regexp.MustCompile(`^-0(\.0*)?$`)
	texts := []string{""}
	for len(texts) > 0 && len(texts[0]) <= 5 {
		var longer []string
		for _, s := range texts {
			want := form.MatchString(s) && !nought.MatchString(s)
			n, ok := num.Parse(s)
			if ok != want || !ok && n != 0 {
				t.Errorf("Parse(%q): %d %t", s, n, ok)
			}
			for _, c := range []string{"-", ".", "0", "1", "9", "x"} {
				longer = append(longer, s+c)
			}
		}
		texts = longer
	}
}

// P1.6
func TestParseOfShow(t *testing.T) {
	numbers := samples()
	for _, unit := range []int64{1, 10, 100, 1000, 10000, 100000, 1000000, most / 1000} {
		for n := int64(-999); n <= 999; n += 7 {
			numbers = append(numbers, n*unit)
		}
	}
	for _, a := range numbers {
		s := num.Show(a)
		if n, ok := num.Parse(s); n != num.Clamp(a) || !ok {
			t.Errorf("Parse(%q), of %d: %d %t", s, a, n, ok)
		}
		if strings.Contains(s, ".") != (num.Clamp(a)%api.One != 0) || strings.Contains(s, ".") && strings.HasSuffix(s, "0") {
			t.Errorf("Show(%d): %q", a, s)
		}
	}
}
