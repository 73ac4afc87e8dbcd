package wire_test

import (
	"bytes"
	"hash/crc32"
	"math/rand"
	"testing"

	"usance/wire"
)

// P2.4
func TestCrc(t *testing.T) {
	for s, want := range map[string]uint32{
		"": 0, "123456789": 0xCBF43926, "a": 0xE8B7BE43, "abc": 0x352441C2, "\x00": 0xD202EF8D, "\xff": 0xFF000000,
		"\x00\x00\x00\x00": 0x2144DF1C, "\xff\xff\xff\xff": 0xFFFFFFFF,
	} {
		if got := wire.Crc([]byte(s)); got != want {
			t.Errorf("Crc(%q): %08X, want %08X", s, got, want)
		}
	}
}

// P2.4
func TestCrcOfNoBytes(t *testing.T) {
	if wire.Crc() != 0 || wire.Crc(nil) != 0 || wire.Crc([]byte{}) != 0 || wire.Crc(nil, []byte{}, nil) != 0 {
		t.Error(wire.Crc(), wire.Crc(nil), wire.Crc([]byte{}), wire.Crc(nil, []byte{}, nil))
	}
}

// P2.4: parts are summed as the bytes that they come to, wherever they are parted, and are not written into.
func TestCrcOfParts(t *testing.T) {
	r := rand.New(rand.NewSource(4))
	for n := range 300 {
		whole := make([]byte, n)
		r.Read(whole)
		kept := bytes.Clone(whole)
		a, b := r.Intn(n+1), r.Intn(n+1)
		a, b = min(a, b), max(a, b)
		want := crc32.ChecksumIEEE(whole)
		for _, got := range []uint32{wire.Crc(whole), wire.Crc(whole[:a], whole[a:]), wire.Crc(whole[:a], nil, whole[a:b], whole[b:])} {
			if got != want {
				t.Errorf("of %d bytes, parted at %d, %d: %08X, want %08X", n, a, b, got, want)
			}
		}
		if !bytes.Equal(whole, kept) {
			t.Fatal("Crc wrote into its parts")
		}
	}
}

// What follows: if one byte is another one, the CRC is another one.
func TestCrcOfAnotherByte(t *testing.T) {
	b := []byte("One byte of these becomes each other one.\x00\xff")
	sum := wire.Crc(b)
	for i, c := range b {
		for other := range 256 {
			b[i] = byte(other)
			if (wire.Crc(b) == sum) != (byte(other) == c) {
				t.Errorf("byte %d as %02X: %08X", i, other, sum)
			}
		}
		b[i] = c
	}
}
