package mac_test

import (
	"encoding/hex"
	"math/rand"
	"strings"
	"testing"

	"usance/mac"
)

// unhexes checks that Unhex reads a text as these bytes.
func unhexes(t *testing.T, s, want string) {
	t.Helper()
	if got, ok := mac.Unhex(s); got != want || !ok {
		t.Errorf("Unhex(%q): %q, %v, want %q", s, got, ok, want)
	}
}

// refuses checks that Unhex takes a text for none of Hex.
func refuses(t *testing.T, s string) {
	t.Helper()
	if got, ok := mac.Unhex(s); got != "" || ok {
		t.Errorf("Unhex(%q): %q, %v, want nothing, false", s, got, ok)
	}
}

// P5.2: every byte, alone and between others.
func TestHexOfEachByte(t *testing.T) {
	all := make([]byte, 256)
	for c := range 256 {
		all[c] = byte(c)
		for _, s := range []string{string([]byte{byte(c)}), string([]byte{0x1f, byte(c), 0xf1})} {
			if got := mac.Hex(s); got != hex.EncodeToString([]byte(s)) {
				t.Errorf("Hex(%q): %s", s, got)
			}
			unhexes(t, mac.Hex(s), s)
		}
	}
	if got := mac.Hex(string(all)); got != hex.EncodeToString(all) {
		t.Errorf("Hex of all bytes: %s", got)
	}
	unhexes(t, mac.Hex(string(all)), string(all))
}

// P5.2
func TestHex(t *testing.T) {
	for s, want := range map[string]string{
		"": "", "\x00": "00", "\n": "0a", "\xa0": "a0", "\xff": "ff", "az": "617a", "é": "c3a9", "\x12\xef\x00": "12ef00",
	} {
		if got := mac.Hex(s); got != want {
			t.Errorf("Hex(%q): %q, want %q", s, got, want)
		}
		unhexes(t, want, s)
	}
}

// P5.2: Unhex reads all that Hex writes.
func TestUnhexOfHex(t *testing.T) {
	r := rand.New(rand.NewSource(55))
	for n := range 300 {
		s := bytesOf(r, n)
		unhexes(t, mac.Hex(s), s)
	}
}

// P5.2: a text of two signs is that of a byte, or nothing.
func TestUnhexOfEachPair(t *testing.T) {
	for a := range 256 {
		for b := range 256 {
			s := string([]byte{byte(a), byte(b)})
			high, low := strings.IndexByte("0123456789abcdef", byte(a)), strings.IndexByte("0123456789abcdef", byte(b))
			if high < 0 || low < 0 {
				refuses(t, s)
				continue
			}
			unhexes(t, s, string([]byte{byte(16*high + low)}))
		}
	}
}

// P5.2: an odd number of digits.
func TestUnhexOfOddTexts(t *testing.T) {
	whole := strings.Repeat("09af", 10)
	for n := 1; n <= len(whole); n += 2 {
		refuses(t, whole[:n])
	}
}

// P5.2: a sign that is no digit, at each place.
func TestUnhexOfOtherSigns(t *testing.T) {
	whole := "00127f80abcdef99"
	for at := range len(whole) {
		for c := range 256 {
			s := whole[:at] + string([]byte{byte(c)}) + whole[at+1:]
			if strings.IndexByte("0123456789abcdef", byte(c)) < 0 {
				refuses(t, s)
				continue
			}
			if got, ok := mac.Unhex(s); !ok || mac.Hex(got) != s {
				t.Errorf("Unhex(%q): %q, %v", s, got, ok)
			}
		}
	}
}

// P5.2: texts that are nearly those of Hex.
func TestUnhexOfWrongTexts(t *testing.T) {
	for _, s := range []string{
		"0aFF", "0A", "Ff", "fF", "ABCDEF", "0", "g", "0g", "g0", "0x0a", "0x", "0X0A", " 0a", "0a ", " a", "a ", "0a 0b", "0a\n", "+1", "-1", "1_", "0_0a",
		"é", "éé", "０", "００", "\x00\x00", "\x000", "0\x00", "\xff\xff", "0:", "0/", "0`", "0@", "0G", "/0", ":0", "`0", "@0",
	} {
		refuses(t, s)
	}
}
