package wire_test

import (
	"bytes"
	"cmp"
	"encoding/binary"
	"math"
	"strings"
	"testing"

	"usance/wire"
)

// P2.1
func TestKeyInt(t *testing.T) {
	for n, want := range map[int64]string{
		-1: "7F FF FF FF FF FF FF FF", 0: "80 00 00 00 00 00 00 00", 1: "80 00 00 00 00 00 00 01", 256: "80 00 00 00 00 00 01 00",
		math.MinInt64: "00 00 00 00 00 00 00 00", math.MaxInt64: "FF FF FF FF FF FF FF FF", 0x0102030405060708: "81 02 03 04 05 06 07 08",
	} {
		if got := wire.KeyInt(nil, n); !bytes.Equal(got, unhex(t, want)) {
			t.Errorf("KeyInt(none, %d): % X, want %s", n, got, want)
		}
		if got := wire.KeyInt([]byte{0, 1}, n); !bytes.Equal(got, unhex(t, "00 01"+want)) {
			t.Errorf("KeyInt(00 01, %d): % X", n, got)
		}
	}
}

// P2.1, P2.3
func TestKeyNumbersThereAndBack(t *testing.T) {
	for _, n := range numbers() {
		b := wire.KeyInt([]byte("ahead"), n)
		if want := binary.BigEndian.AppendUint64([]byte("ahead"), uint64(n)+1<<63); !bytes.Equal(b, want) {
			t.Errorf("%d: % X, want % X", n, b, want)
		}
		for _, behind := range []string{"", "\x00", "behind"} {
			if got, next, ok := wire.TakeKeyInt([]byte(string(b)+behind), 5); got != n || next != 13 || !ok {
				t.Errorf("% X: %d %d %t", b, got, next, ok)
			}
		}
		for end := range b {
			if got, next, ok := wire.TakeKeyInt(b[:end], 5); got != 0 || next != 0 || ok {
				t.Errorf("% X, cut at %d: %d %d %t", b, end, got, next, ok)
			}
		}
	}
}

// P2.1
func TestKeyText(t *testing.T) {
	for s, want := range map[string]string{
		"": "00 01", "a": "61 00 01", "a\x00": "61 00 FF 00 01", "\x00": "00 FF 00 01", "\x00\x00": "00 FF 00 FF 00 01",
		"\x00\x01": "00 FF 01 00 01", "\x01": "01 00 01", "\xff": "FF 00 01", "\x00\xff": "00 FF FF 00 01", "a\x00b": "61 00 FF 62 00 01",
	} {
		if got := wire.KeyText(nil, s); !bytes.Equal(got, unhex(t, want)) {
			t.Errorf("KeyText(none, %q): % X, want %s", s, got, want)
		}
		if got := wire.KeyText([]byte{0}, s); !bytes.Equal(got, unhex(t, "00"+want)) {
			t.Errorf("KeyText(00, %q): % X", s, got)
		}
	}
}

// P2.1, P2.3
func TestKeyTextsThereAndBack(t *testing.T) {
	for _, s := range texts() {
		b := wire.KeyText([]byte("ahead"), s)
		if want := "ahead" + strings.ReplaceAll(s, "\x00", "\x00\xff") + "\x00\x01"; string(b) != want {
			t.Errorf("%.20q: %.20q, want %.20q", s, b, want)
		}
		for _, behind := range []string{"", "\x00", "\x00\x01", "\xff", "behind"} {
			if got, next, ok := wire.TakeKeyText([]byte(string(b)+behind), 5); got != s || next != len(b) || !ok {
				t.Errorf("%.20q: %.20q %d %t", s, got, next, ok)
			}
		}
		for _, end := range []int{5, len(b) - 3, len(b) - 2, len(b) - 1} {
			if got, next, ok := wire.TakeKeyText(b[:end], 5); got != "" || next != 0 || ok {
				t.Errorf("%.20q, cut at %d: %.20q %d %t", s, end, got, next, ok)
			}
		}
	}
}

// P2.3
func TestTakeKeyText(t *testing.T) {
	for s, want := range map[string]string{
		"00 01": "", "61 00 01": "a", "00 FF 00 01": "\x00", "61 00 01 62": "a", "00 01 00 01": "", "01 00 01": "\x01", "FF 00 01": "\xff",
	} {
		b := unhex(t, s)
		if text, next, ok := wire.TakeKeyText(b, 0); text != want || next != len(wire.KeyText(nil, want)) || !ok {
			t.Errorf("%s: %q %d %t", s, text, next, ok)
		}
	}
	for _, s := range []string{
		"", "61", "00", "61 00", "61 00 FF", "00 FF 00", "61 62 63", "01", "FF", // no end
		"61 00 02", "61 00 00", "61 00 FE", "00 00 01", "61 00 02 00 01", "00 FF 00 00 00 01", "61 00 61 00 01", "00 80 00 01", // no such pair of bytes
	} {
		if text, next, ok := wire.TakeKeyText(unhex(t, s), 0); text != "" || next != 0 || ok {
			t.Errorf("%s: %q %d %t", s, text, next, ok)
		}
	}
}

// What follows: parts of keys stand as the numbers and the texts do, and none is the beginning of another one.
func TestKeysStandAsWhatTheySay(t *testing.T) {
	key := func(n int64) []byte { return wire.KeyInt(nil, n) }
	for _, a := range numbers() {
		for _, b := range numbers() {
			if bytes.Compare(key(a), key(b)) != cmp.Compare(a, b) {
				t.Fatalf("%d, %d: % X, % X", a, b, key(a), key(b))
			}
		}
	}
	for _, a := range texts() {
		for _, b := range texts() {
			x, y := wire.KeyText(nil, a), wire.KeyText(nil, b)
			if bytes.Compare(x, y) != strings.Compare(a, b) || a != b && bytes.HasPrefix(x, y) {
				t.Fatalf("%.20q, %.20q: % .20X, % .20X", a, b, x, y)
			}
		}
	}
}

// What follows: keys of several parts stand as these do, part by part.
func TestKeysOfSeveralParts(t *testing.T) {
	type parts struct {
		s string
		n int64
		z string
	}
	var all []parts
	for _, s := range []string{"", "\x00", "\x00\x01", "\x01", "a", "a\x00", "a\x00\x00", "a\x01", "a\xff", "ab", "b", "\xff"} {
		for _, n := range []int64{math.MinInt64, -1, 0, 1, 0x6100, math.MaxInt64} {
			for _, z := range []string{"", "\x00", "a", "a\x00"} {
				all = append(all, parts{s, n, z})
			}
		}
	}
	key := func(p parts) []byte { return wire.KeyText(wire.KeyInt(wire.KeyText(nil, p.s), p.n), p.z) }
	for _, a := range all {
		for _, b := range all {
			want := cmp.Or(strings.Compare(a.s, b.s), cmp.Compare(a.n, b.n), strings.Compare(a.z, b.z))
			if bytes.Compare(key(a), key(b)) != want {
				t.Fatalf("%+q %d %+q, %+q %d %+q: % X, % X", a.s, a.n, a.z, b.s, b.n, b.z, key(a), key(b))
			}
		}
	}
}
