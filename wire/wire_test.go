package wire_test

import (
	"bytes"
	"encoding/binary"
	"encoding/hex"
	"math"
	"math/big"
	"math/rand"
	"strings"
	"testing"

	"usance/wire"
)

// unhex are bytes that are written in base sixteen, with spaces between them as one likes.
func unhex(t *testing.T, s string) []byte {
	t.Helper()
	b, err := hex.DecodeString(strings.ReplaceAll(s, " ", ""))
	if err != nil {
		t.Fatal(err)
	}
	return b
}

// numbers are the edges of numbers and of how many bytes they have, and numbers of all sizes from a fixed seed.
func numbers() []int64 {
	out := []int64{0, math.MinInt64, math.MinInt64 + 1, math.MaxInt64, math.MaxInt64 - 1}
	r := rand.New(rand.NewSource(2))
	for shift := range 63 {
		n := int64(1) << shift
		out = append(out, n-1, n, n+1, -n-1, -n, 1-n)
		n = r.Int63() >> shift
		out = append(out, n, -n)
	}
	return out
}

// texts are texts with the bytes that keys treat in their own way, of lengths whose own bytes are one, two and three.
func texts() []string {
	out := []string{""}
	for _, a := range []string{"", "\x00", "\x01", "\xff", "a", "\x00\x01", "\x00\xff"} {
		for _, b := range []string{"\x00", "\x01", "\x02", "\xfe", "\xff", "a", "b", "\x00\x00"} {
			out = append(out, a+b, b+a+b)
		}
	}
	for _, n := range []int{63, 64, 8191, 8192, 70000} {
		out = append(out, strings.Repeat("x", n), strings.Repeat("\x00", n))
	}
	return append(out, "\u20ac 7", "not \xc3\x28 runes")
}

// P2.1
func TestPutInt(t *testing.T) {
	for n, want := range map[int64]string{
		0: "00", -1: "01", 1: "02", -2: "03", 2: "04", 63: "7E", -64: "7F", 64: "80 01", -65: "81 01", 100: "C8 01",
		8191: "FE 7F", -8192: "FF 7F", 8192: "80 80 01", -8193: "81 80 01",
		math.MaxInt64: "FE FF FF FF FF FF FF FF FF 01", math.MinInt64: "FF FF FF FF FF FF FF FF FF 01",
		1<<62 - 1: "FE FF FF FF FF FF FF FF 7F", -1 << 62: "FF FF FF FF FF FF FF FF 7F", 1 << 62: "80 80 80 80 80 80 80 80 80 01",
	} {
		if got := wire.PutInt(nil, n); !bytes.Equal(got, unhex(t, want)) {
			t.Errorf("PutInt(none, %d): % X, want %s", n, got, want)
		}
		if got := wire.PutInt([]byte{7, 0, 255}, n); !bytes.Equal(got, unhex(t, "07 00 FF"+want)) {
			t.Errorf("PutInt(07 00 FF, %d): % X", n, got)
		}
	}
}

// bytesOf are a number's bytes as the chapter's section 'Words' tells them, worked out by whole numbers without limits.
func bytesOf(n int64) []byte {
	u := new(big.Int).Lsh(big.NewInt(n), 1)
	if n < 0 {
		u.Neg(u).Sub(u, big.NewInt(1))
	}
	var out []byte
	for u.BitLen() > 7 {
		out = append(out, byte(128+new(big.Int).And(u, big.NewInt(127)).Int64()))
		u.Rsh(u, 7)
	}
	return append(out, byte(u.Int64()))
}

// P2.1, P2.2: what was put is taken as it was.
func TestNumbersThereAndBack(t *testing.T) {
	for _, n := range numbers() {
		want := append([]byte{128}, bytesOf(n)...)
		b := wire.PutInt([]byte{128}, n)
		if !bytes.Equal(b, want) {
			t.Errorf("%d: % X, want % X", n, b, want)
		}
		for _, behind := range []string{"", "\x00", "\xff\xff"} {
			if got, next, ok := wire.TakeInt([]byte(string(b)+behind), 1); got != n || next != len(b) || !ok {
				t.Errorf("% X: %d %d %t, want %d %d", b, got, next, ok, n, len(b))
			}
		}
		for end := 1; end < len(b); end++ {
			if got, next, ok := wire.TakeInt(b[:end], 1); got != 0 || next != 0 || ok {
				t.Errorf("% X, cut at %d: %d %d %t", b, end, got, next, ok)
			}
		}
	}
}

// P2.2
func TestTakeInt(t *testing.T) {
	for s, want := range map[string]int64{
		"00": 0, "01": -1, "02": 1, "7F": -64, "80 01": 64, "00 80": 0, "02 00": 1, "80 80 01 80": 8192,
		"FF FF FF FF FF FF FF FF FF 01": math.MinInt64, "FE FF FF FF FF FF FF FF FF 01 FF": math.MaxInt64,
		"80 80 80 80 80 80 80 80 80 01": 1 << 62, "80 80 80 80 80 80 80 80 01": 1 << 55,
	} {
		b := unhex(t, s)
		if n, next, ok := wire.TakeInt(b, 0); n != want || !bytes.Equal(b[:next], wire.PutInt(nil, want)) || !ok {
			t.Errorf("%s: %d %d %t, want %d", s, n, next, ok, want)
		}
	}
}

// P2.2
func TestTakeIntRefuses(t *testing.T) {
	for _, s := range []string{
		"", "80", "FF", "80 80", "FF FF FF FF FF FF FF FF", "FF FF FF FF FF FF FF FF FF", "80 80 80 80 80 80 80 80 80 80", // end too early
		"80 00", "FF 00", "80 80 00", "81 80 80 00", "80 80 80 80 80 80 80 80 00", "FF FF FF FF FF FF FF FF FF 00", // not as few as may be
		"FF FF FF FF FF FF FF FF FF 02", "80 80 80 80 80 80 80 80 80 02", "80 80 80 80 80 80 80 80 80 03", "80 80 80 80 80 80 80 80 80 7F", // more than 2^64 - 1
		"FF FF FF FF FF FF FF FF FF FF", "FF FF FF FF FF FF FF FF FF 81", "FF FF FF FF FF FF FF FF FF FF 01", "80 80 80 80 80 80 80 80 80 81 00",
		"80 80 80 80 80 80 80 80 80 80 01", "80 80 80 80 80 80 80 80 80 80 80 80 80 01",
	} {
		if n, next, ok := wire.TakeInt(unhex(t, s), 0); n != 0 || next != 0 || ok {
			t.Errorf("%s: %d %d %t", s, n, next, ok)
		}
	}
}

// P2.2, P2.3: places outside of the bytes, and just behind them, have nothing.
func TestPlacesOutside(t *testing.T) {
	for _, b := range [][]byte{nil, {}, {0}, {0, 0, 1, 0, 0, 0, 0, 0, 0, 1}, make([]byte, 3, 64)} {
		for _, at := range []int{math.MinInt, math.MinInt + 1, -11, -8, -2, -1, len(b), len(b) + 1, len(b) + 8, math.MaxInt - 1, math.MaxInt} {
			if n, next, ok := wire.TakeInt(b, at); n != 0 || next != 0 || ok {
				t.Errorf("TakeInt(% X, %d): %d %d %t", b, at, n, next, ok)
			}
			if s, next, ok := wire.TakeText(b, at, 9); s != "" || next != 0 || ok {
				t.Errorf("TakeText(% X, %d, 9): %q %d %t", b, at, s, next, ok)
			}
			if n, next, ok := wire.TakeKeyInt(b, at); n != 0 || next != 0 || ok {
				t.Errorf("TakeKeyInt(% X, %d): %d %d %t", b, at, n, next, ok)
			}
			if s, next, ok := wire.TakeKeyText(b, at); s != "" || next != 0 || ok {
				t.Errorf("TakeKeyText(% X, %d): %q %d %t", b, at, s, next, ok)
			}
		}
	}
}

// P2.1
func TestPutText(t *testing.T) {
	for s, want := range map[string]string{
		"": "00", "ab": "04 61 62", "\x00": "02 00", "\xff\x80": "04 FF 80",
		strings.Repeat("z", 63): "7E" + strings.Repeat("7A", 63), strings.Repeat("z", 64): "80 01" + strings.Repeat("7A", 64),
	} {
		if got := wire.PutText(nil, s); !bytes.Equal(got, unhex(t, want)) {
			t.Errorf("PutText(none, %q): % X", s, got)
		}
		if got := wire.PutText([]byte{4}, s); !bytes.Equal(got, unhex(t, "04"+want)) {
			t.Errorf("PutText(04, %q): % X", s, got)
		}
	}
}

// P2.1, P2.3: what was put is taken as it was, if it may be so long.
func TestTextsThereAndBack(t *testing.T) {
	for _, s := range texts() {
		b := wire.PutText([]byte("ahead"), s)
		for _, behind := range []string{"", "\x00", "behind"} {
			for _, most := range []int{len(s), len(s) + 1, math.MaxInt} {
				if got, next, ok := wire.TakeText([]byte(string(b)+behind), 5, most); got != s || next != len(b) || !ok {
					t.Errorf("%.20q, most %d: %.20q %d %t", s, most, got, next, ok)
				}
			}
			for _, most := range []int{len(s) - 1, -1, -2, math.MinInt} {
				if got, next, ok := wire.TakeText([]byte(string(b)+behind), 5, most); got != "" || next != 0 || ok {
					t.Errorf("%.20q, most %d: %.20q %d %t", s, most, got, next, ok)
				}
			}
		}
		for _, end := range []int{5, 6, len(b) - 2, len(b) - 1} {
			if end < 5 || end >= len(b) {
				continue
			}
			if got, next, ok := wire.TakeText(b[:end], 5, math.MaxInt); got != "" || next != 0 || ok {
				t.Errorf("%.20q, cut at %d: %.20q %d %t", s, end, got, next, ok)
			}
		}
	}
}

// P2.3
func TestTakeTextRefuses(t *testing.T) {
	for _, s := range []string{
		"", "02", "04 61", "80 01 61", "84 00 61 62", "80 00", "80", // ends too early, or its length isn't a number's bytes
		"01", "01 61", "03 61 62", "FF FF FF FF FF FF FF FF FF 01 61", // a length below 0
		"FE FF FF FF FF FF FF FF FF 01", "FE FF FF FF FF FF FF FF FF 01 61", "80 80 80 80 80 80 80 80 80 01 61", "80 80 80 80 10 61", // one far beyond the end
		"FF FF FF FF FF FF FF FF FF 02 61",
	} {
		for _, most := range []int{math.MinInt, -1, 0, 1, 2, 1 << 31, math.MaxInt} {
			if text, next, ok := wire.TakeText(unhex(t, s), 0, most); text != "" || next != 0 || ok {
				t.Errorf("%s, most %d: %q %d %t", s, most, text, next, ok)
			}
		}
	}
}

// What follows of P2.2, P2.3: what is taken, put again, has just those bytes, so that nothing has two forms. All lists of up to four of some bytes.
func TestOneFormAlone(t *testing.T) {
	all := [][]byte{nil}
	for len(all[0]) <= 4 {
		var longer [][]byte
		for _, b := range all {
			for at := range len(b) + 1 {
				putAgain(t, b, at)
			}
			for _, c := range []byte{0, 1, 2, 4, 127, 128, 129, 254, 255} {
				longer = append(longer, append(bytes.Clone(b), c))
			}
		}
		all = longer
	}
}

// putAgain holds what each call takes from b against what it is made of.
func putAgain(t *testing.T, b []byte, at int) {
	if n, next, ok := wire.TakeInt(b, at); ok && !bytes.Equal(wire.PutInt(b[:at], n), b[:next]) {
		t.Errorf("TakeInt(% X, %d): %d", b, at, n)
	}
	if s, next, ok := wire.TakeText(b, at, 9); ok && !bytes.Equal(wire.PutText(b[:at], s), b[:next]) {
		t.Errorf("TakeText(% X, %d): %q", b, at, s)
	}
	if s, next, ok := wire.TakeKeyText(b, at); ok && !bytes.Equal(wire.KeyText(b[:at], s), b[:next]) {
		t.Errorf("TakeKeyText(% X, %d): %q", b, at, s)
	}
}

// P2.2: bytes by chance, held against the library's reader of such numbers, which takes longer forms too.
func TestTakeIntOfChance(t *testing.T) {
	r := rand.New(rand.NewSource(3))
	for range 200000 {
		b := make([]byte, r.Intn(13))
		for i := range b {
			b[i] = [4]byte{byte(r.Intn(256)), byte(r.Intn(128)) + 128, 255, byte(r.Intn(3))}[r.Intn(4)]
		}
		want, size := binary.Varint(b)
		if size > 0 && !bytes.Equal(binary.AppendVarint(nil, want), b[:size]) {
			size = 0
		}
		n, next, ok := wire.TakeInt(b, 0)
		if size > 0 && (n != want || next != size || !ok) || size <= 0 && (n != 0 || next != 0 || ok) {
			t.Errorf("% X: %d %d %t", b, n, next, ok)
		}
	}
}

// P2.1 and R3: what is answered is new memory, and what is handed in stays as it is, its spare room too.
func TestNewMemory(t *testing.T) {
	for name, put := range map[string]func([]byte) []byte{
		"PutInt":  func(b []byte) []byte { return wire.PutInt(b, 77777) },
		"PutText": func(b []byte) []byte { return wire.PutText(b, "text\x00") },
		"KeyInt":  func(b []byte) []byte { return wire.KeyInt(b, 77777) },
		"KeyText": func(b []byte) []byte { return wire.KeyText(b, "text\x00") },
	} {
		whole := bytes.Repeat([]byte{9}, 64)
		for _, b := range [][]byte{whole[:0], whole[:3], whole} {
			first := put(b)
			kept := bytes.Clone(first)
			second := put(b)
			for i := range first[:cap(first)] {
				first[:cap(first)][i] = 1
			}
			if !bytes.Equal(second, kept) || !bytes.Equal(kept[:len(b)], whole[:len(b)]) {
				t.Errorf("%s behind %d bytes: % X, then % X", name, len(b), kept, second)
			}
			if !bytes.Equal(whole, bytes.Repeat([]byte{9}, 64)) {
				t.Fatalf("%s wrote into what it was handed: % X", name, whole)
			}
		}
	}
}

// P2.3 and R3: texts that were taken stay as they are when the bytes become others, and the bytes are not written into.
func TestTakenTextsAreNew(t *testing.T) {
	b := wire.KeyText(wire.PutText(nil, "first"), "second\x00")
	before := bytes.Clone(b)
	first, next, _ := wire.TakeText(b, 0, 9)
	second, _, _ := wire.TakeKeyText(b, next)
	if !bytes.Equal(b, before) {
		t.Errorf("% X, was % X", b, before)
	}
	clear(b)
	if first != "first" || second != "second\x00" {
		t.Errorf("%q %q", first, second)
	}
}
