package mac_test

import (
	"crypto/hmac"
	"crypto/sha256"
	"math/rand"
	"slices"
	"strings"
	"testing"

	"usance/mac"
)

// shaLibrary and hmacLibrary are the library's answers, against which ours are held.
func shaLibrary(text string) string {
	sum := sha256.Sum256([]byte(text))
	return string(sum[:])
}

func hmacLibrary(key, text string) string {
	h := hmac.New(sha256.New, []byte(key))
	h.Write([]byte(text))
	return string(h.Sum(nil))
}

// bytesOf is so many bytes of a seeded source.
func bytesOf(r *rand.Rand, n int) string {
	b := make([]byte, n)
	r.Read(b)
	return string(b)
}

// edgeLengths are those at which the end mark, or the length behind it, comes into another block, and their neighbours.
func edgeLengths() []int {
	out := []int{0, 1}
	for block := 0; block <= 4*64; block += 64 {
		out = append(out, block+54, block+55, block+56, block+57, block+62, block+63, block+64, block+65)
	}
	return out
}

// P5.1: what is published of SHA-256.
func TestSum(t *testing.T) {
	for _, x := range []struct{ text, want string }{
		{"", "e3b0c44298fc1c149afbf4c8996fb92427ae41e4649b934ca495991b7852b855"},
		{"abc", "ba7816bf8f01cfea414140de5dae2223b00361a396177a9cb410ff61f20015ad"},
		{"abcdbcdecdefdefgefghfghighijhijkijkljklmklmnlmnomnopnopq", "248d6a61d20638b8e5c026930c3e6039a33ce45964ff2167f6ecedd419db06c1"},
		{"\xbd", "68325720aabd7c82f30f554b313d0570c95accbb7dc4b5aae11204c08ffe732b"},
		{strings.Repeat("\x00", 55), "02779466cdec163811d078815c633f21901413081449002f24aa3e80f0b88ef7"},
		{strings.Repeat("\x00", 56), "d4817aa5497628e7c77e6b606107042bbba3130888c5f47a375e6179be789fbb"},
		{strings.Repeat("\x00", 64), "f5a5fd42d16a20302798ef6ed309979b43003d2320d9f0e8ea9831a92759fb4b"},
		{strings.Repeat("a", 1000000), "cdc76e5c9914fb9281a1c7e284d73e67f1809a48a497200e046d39ccc7112cd0"},
	} {
		if got := mac.Hex(mac.Sum(x.text)); got != x.want {
			t.Errorf("Sum of %d bytes: %s, want %s", len(x.text), got, x.want)
		}
	}
}

// P5.1: no part, parts without bytes.
func TestSumOfNoBytes(t *testing.T) {
	want := shaLibrary("")
	for i, got := range []string{mac.Sum(), mac.Sum(""), mac.Sum("", ""), mac.Sum([]string{}...), mac.Sum(nil...)} {
		if got != want {
			t.Errorf("%d: %x", i, got)
		}
	}
}

// P5.1
func TestSumOfEachLength(t *testing.T) {
	r := rand.New(rand.NewSource(5))
	for n := range 600 {
		for _, text := range []string{bytesOf(r, n), strings.Repeat("\x00", n), strings.Repeat("\xff", n), strings.Repeat("\x80", n)} {
			if got := mac.Sum(text); got != shaLibrary(text) {
				t.Errorf("Sum of %d bytes: %x", n, got)
			}
		}
	}
}

// P5.1: more bits than two, three and four bytes can tell.
func TestSumOfManyBytes(t *testing.T) {
	for _, n := range []int{1<<13 - 1, 1 << 13, 1<<13 + 1, 1 << 16, 1<<21 - 1, 1 << 21, 1<<21 + 57} {
		text := strings.Repeat("usance ", n/7+1)[:n]
		if got := mac.Sum(text); got != shaLibrary(text) {
			t.Errorf("Sum of %d bytes: %x", n, got)
		}
	}
}

// P5.1: each single bit of a text counts.
func TestSumOfOneBit(t *testing.T) {
	for bit := range 8 * 130 {
		text := make([]byte, 130)
		text[bit/8] = 1 << (bit % 8)
		if got := mac.Sum(string(text)); got != shaLibrary(string(text)) {
			t.Errorf("bit %d: %x", bit, got)
		}
	}
}

// P5.3
func TestSumOfParts(t *testing.T) {
	r := rand.New(rand.NewSource(53))
	for _, n := range edgeLengths() {
		text := bytesOf(r, n)
		want := shaLibrary(text)
		for at := range n + 1 {
			later := at + r.Intn(n-at+1)
			for i, got := range []string{
				mac.Sum(text[:at], text[at:]), mac.Sum("", text[:at], "", text[at:], ""),
				mac.Sum(text[:at], text[at:later], text[later:]),
			} {
				if got != want {
					t.Errorf("Sum of %d bytes, cut at %d, %d, %d: %x, want %x", n, at, later, i, got, want)
				}
			}
		}
		if got := mac.Sum(strings.Split(text, "")...); got != want {
			t.Errorf("Sum of %d bytes, rune by rune: %x, want %x", n, got, want)
		}
	}
}

// P5.1: what is published of HMAC-SHA256.
func TestTag(t *testing.T) {
	for _, x := range []struct{ key, text, want string }{
		{strings.Repeat("\x0b", 20), "Hi There", "b0344c61d8db38535ca8afceaf0bf12b881dc200c9833da726e9376c2e32cff7"},
		{"Jefe", "what do ya want for nothing?", "5bdcc146bf60754e6a042426089575c75a003f089d2739839dec58b964ec3843"},
		{strings.Repeat("\xaa", 20), strings.Repeat("\xdd", 50), "773ea91e36800e46854db8ebd09181a72959098b3ef8c122d9635514ced565fe"},
		{strings.Repeat("\xaa", 131), "Test Using Larger Than Block-Size Key - Hash Key First", "60e431591ee0b67f0d8a26aacbf5b77f8e0bc6213728c5140546040f0ee37f54"},
		{"", "", "b613679a0814d9ec772f95d778c35fc5ff1697c493715653c6c712144292c5ad"},
	} {
		if got := mac.Hex(mac.Tag(x.key, x.text)); got != x.want {
			t.Errorf("Tag(%q, %q): %s, want %s", x.key, x.text, got, x.want)
		}
	}
}

// P5.1: a key of more than 64 bytes is taken as its sum, all others as they are.
func TestTagOfEachKey(t *testing.T) {
	r := rand.New(rand.NewSource(51))
	for n := range 200 {
		for _, key := range []string{bytesOf(r, n), strings.Repeat("\x00", n), strings.Repeat("\x36", n), strings.Repeat("\x5c", n)} {
			for _, text := range []string{"", "a", bytesOf(r, r.Intn(200))} {
				if got := mac.Tag(key, text); got != hmacLibrary(key, text) {
					t.Errorf("Tag by a key of %d bytes, of %d: %x", n, len(text), got)
				}
			}
		}
	}
}

// P5.1: at the key's edges, and of all lengths.
func TestTagAtTheEdges(t *testing.T) {
	r := rand.New(rand.NewSource(52))
	for _, k := range []int{0, 1, 31, 32, 33, 63, 64, 65, 127, 128, 129} {
		key := bytesOf(r, k)
		for _, n := range edgeLengths() {
			text := bytesOf(r, n)
			if got := mac.Tag(key, text); got != hmacLibrary(key, text) {
				t.Errorf("Tag by a key of %d bytes, of %d: %x", k, n, got)
			}
		}
		if want := hmacLibrary(key, ""); mac.Tag(key) != want || mac.Tag(key, "") != want || mac.Tag(key, "", "") != want || mac.Tag(key, nil...) != want {
			t.Errorf("Tag by a key of %d bytes, of nothing: %x, want %x", k, mac.Tag(key), want)
		}
	}
}

// P5.1: noughts behind a short key change nothing, a key of 65 bytes and its sum are one: that is how the tag is made.
func TestTagOfKeysThatAreOne(t *testing.T) {
	if mac.Tag("k", "text") != mac.Tag("k\x00", "text") || mac.Tag("", "text") != mac.Tag(strings.Repeat("\x00", 64), "text") {
		t.Error("noughts behind a short key change the tag")
	}
	long := strings.Repeat("k", 65)
	if mac.Tag(long, "text") != mac.Tag(mac.Sum(long), "text") || mac.Tag(long[:64], "text") == mac.Tag(mac.Sum(long[:64]), "text") {
		t.Error("a key is taken as its sum from another length on")
	}
}

// P5.3
func TestTagOfParts(t *testing.T) {
	r := rand.New(rand.NewSource(54))
	for _, n := range edgeLengths() {
		for _, k := range []int{0, 5, 63, 64, 65} {
			key, text := bytesOf(r, k), bytesOf(r, n)
			want := hmacLibrary(key, text)
			for at := range n + 1 {
				if mac.Tag(key, text[:at], text[at:]) != want || mac.Tag(key, "", text[:at], "", text[at:], "") != want {
					t.Errorf("Tag by a key of %d bytes, of %d, cut at %d", k, n, at)
				}
			}
		}
	}
}

// P5.3: what is the key's and what is the first part's is not one.
func TestTagOfKeyAndPart(t *testing.T) {
	if mac.Tag("ab", "c") == mac.Tag("a", "bc") || mac.Tag("a", "b") == mac.Tag("b", "a") {
		t.Error("a key is taken for a part")
	}
}

// R3: parts that are handed in as a list stay as they are, and so does the room behind them.
func TestPartsStay(t *testing.T) {
	list := []string{"one", "two", "three", "four"}
	kept := slices.Clone(list)
	first := mac.Sum(list[:2]...)
	tag := mac.Tag("key", list[:2]...)
	if !slices.Equal(list, kept) {
		t.Errorf("parts became %q", list)
	}
	if mac.Sum(list[:2]...) != first || mac.Tag("key", list[:2]...) != tag || first != shaLibrary("onetwo") || tag != hmacLibrary("key", "onetwo") {
		t.Error("a second call has another answer")
	}
}
