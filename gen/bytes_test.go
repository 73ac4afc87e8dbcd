package gen_test

import (
	"bytes"
	"math"
	"reflect"
	"slices"
	"testing"

	"usance/api"
	"usance/gen"
	"usance/wire"
)

// laid are the bytes of a bytecode, right or not, as the chapter lays them, and the places where its numbers and texts begin.
type laid struct {
	bytes  []byte
	places []int
}

func (l *laid) number(n int64) {
	l.places = append(l.places, len(l.bytes))
	l.bytes = append(l.bytes, wire.PutInt(nil, n)...)
}

func (l *laid) text(s string) {
	l.places = append(l.places, len(l.bytes))
	l.bytes = append(l.bytes, wire.PutText(nil, s)...)
}

func lay(c api.Code) *laid {
	l := &laid{}
	l.number(int64(c.Regs))
	l.number(int64(len(c.Waits)))
	for _, w := range c.Waits {
		l.number(int64(w.Entry))
		l.number(int64(w.Day))
		l.text(w.Label)
		l.number(int64(w.First))
		l.number(int64(w.Second))
	}
	l.number(int64(len(c.Ins)))
	for _, i := range c.Ins {
		l.number(int64(i.Op))
		l.number(int64(i.A))
		l.number(int64(i.B))
		l.number(int64(i.C))
		l.number(i.N)
		l.text(i.S)
		l.number(int64(i.To))
	}
	return l
}

// alike: are bytecodes the same, nil and empty lists, too?
func alike(c, d api.Code) bool {
	return c.Regs == d.Regs && slices.Equal(c.Waits, d.Waits) && slices.Equal(c.Ins, d.Ins)
}

// decodes checks that bytes say a bytecode.
func decodes(t *testing.T, b []byte, want api.Code) {
	t.Helper()
	if c, at, e := gen.Decode(b); !alike(c, want) || at != 0 || e != api.OK {
		t.Fatalf("% x: %v, %d, %v, want %v", b, c, at, e, want)
	}
}

// decodesNot checks that bytes say none.
func decodesNot(t *testing.T, b []byte, place int, want api.Errno) {
	t.Helper()
	if c, at, e := gen.Decode(b); !reflect.DeepEqual(c, api.Code{}) || at != place || e != want {
		t.Fatalf("%.600x: %.600v, %d, %v, want %d, %v", b, c, at, e, place, want)
	}
}

// P17.3: the chapter's examples.
func TestBytesExamples(t *testing.T) {
	c := api.Code{Ins: []api.Instr{{Op: api.IPay, S: "EUR"}, {Op: api.IEnd}}}
	want := []byte{0, 0, 4, 0x36, 0, 0, 0, 0, 6, 0x45, 0x55, 0x52, 0, 0x3c, 0, 0, 0, 0, 0, 0}
	if b, e := gen.Encode(c); !bytes.Equal(b, want) || e != api.OK {
		t.Errorf("% x, %v", b, e)
	}
	decodes(t, want, c)
	decodesNot(t, nil, 0, api.ErrGenByte)
	decodesNot(t, []byte{}, 0, api.ErrGenByte)
}

// P17.3, P17.4: bytecodes by chance there and back.
func TestThereAndBack(t *testing.T) {
	g := newGrower(183)
	for i := range 6000 {
		c := g.code()
		if i%3 == 0 {
			c = compiled(t, g.contract(1+i%10, 100), i%16)
		}
		b, e := gen.Encode(c)
		if e != api.OK || !bytes.Equal(b, lay(c).bytes) {
			t.Fatalf("%v: % x, %v", c, b, e)
		}
		decodes(t, b, c)
		d := g.spoilt(c)
		b = lay(d).bytes
		if right(d) {
			decodes(t, b, d)
		} else if len(d.Ins) > 0 && !slices.ContainsFunc(d.Ins, func(i api.Instr) bool { return len(i.S) > 24 }) {
			decodesNot(t, b, 0, api.ErrGenForm)
		}
	}
}

// P17.3: bytes that end too early, wherever: the place of the number or the text that they cut.
func TestCutBytes(t *testing.T) {
	g := newGrower(184)
	for range 600 {
		l := lay(g.code())
		for size := range l.bytes {
			place := 0
			for i, from := range l.places {
				end := len(l.bytes)
				if i+1 < len(l.places) {
					end = l.places[i+1]
				}
				if end > size {
					place = from
					break
				}
			}
			decodesNot(t, l.bytes[:size], place, api.ErrGenByte)
		}
		for _, more := range [][]byte{{0}, {0x80}, {1, 2, 3}, l.bytes} {
			decodesNot(t, append(slices.Clone(l.bytes), more...), len(l.bytes), api.ErrGenByte)
		}
	}
}

// P17.3: a number, or a text, that does not stand where it should.
func TestWrongBytes(t *testing.T) {
	g := newGrower(185)
	for range 600 {
		l := lay(g.code())
		for _, place := range l.places {
			for _, wrong := range [][]byte{{0x80, 0}, {0xff, 0xff, 0xff, 0xff, 0xff, 0xff, 0xff, 0xff, 0xff, 2}, bytes.Repeat([]byte{0xff}, 11)} {
				decodesNot(t, append(slices.Clone(l.bytes[:place]), wrong...), place, api.ErrGenByte)
				decodesNot(t, slices.Concat(l.bytes[:place], wrong, l.bytes[place:]), place, api.ErrGenByte)
			}
		}
	}
}

// P17.3: how many waits and instructions are said, and how long a text is.
func TestCounts(t *testing.T) {
	for _, n := range []int64{-1, 251, 252, 1000, math.MaxInt64, math.MinInt64, 1 << 32, 1<<32 + 1} {
		for _, more := range [][]byte{nil, make([]byte, 4000)} {
			decodesNot(t, slices.Concat([]byte{0}, wire.PutInt(nil, n), more), 1, api.ErrGenByte)
			decodesNot(t, slices.Concat(wire.PutInt(nil, -99999), wire.PutInt(nil, n), more), len(wire.PutInt(nil, -99999)), api.ErrGenByte)
		}
	}
	for _, n := range []int64{-1, 16385, 100000, math.MaxInt64, math.MinInt64, 1 << 32, 1<<32 + 1} {
		for _, more := range [][]byte{nil, make([]byte, 200000)} {
			decodesNot(t, slices.Concat([]byte{0, 0}, wire.PutInt(nil, n), more), 2, api.ErrGenByte)
			decodesNot(t, slices.Concat([]byte{0, 2, 0, 0, 0, 0, 0}, wire.PutInt(nil, n), more), 7, api.ErrGenByte)
		}
	}
	for _, n := range []int64{-1, 25, 26, math.MaxInt64, math.MinInt64, 1<<32 + 1} {
		for _, more := range [][]byte{nil, make([]byte, 200)} {
			decodesNot(t, slices.Concat([]byte{0, 2, 0, 0}, wire.PutInt(nil, n), more), 4, api.ErrGenByte)
			decodesNot(t, slices.Concat([]byte{0, 0, 2, 0, 0, 0, 0, 0}, wire.PutInt(nil, n), more), 8, api.ErrGenByte)
		}
	}
}

// P17.3: as many as may be, and what reads as numbers and texts but is no right bytecode.
func TestReadButNotRight(t *testing.T) {
	most := api.Code{Regs: 256, Waits: make([]api.Wait, 250), Ins: ends(16384)}
	for i := range most.Waits {
		most.Waits[i] = api.Wait{Entry: 16383, Day: 73048, Label: "abcdefghijklmnopqrstuvwx", First: 16383, Second: 16383 - i}
	}
	for i := range most.Ins[:16383] {
		most.Ins[i] = api.Instr{Op: api.IFeed, A: 255, N: 3660, S: "abcdefghijklmnopqrstuvwx", To: 16383}
	}
	b, e := gen.Encode(most)
	if e != api.OK || !bytes.Equal(b, lay(most).bytes) {
		t.Error(len(b), e)
	}
	decodes(t, b, most)
	most.Ins[16382].To = 16384
	decodesNot(t, lay(most).bytes, 0, api.ErrGenForm)
	for _, b := range [][]byte{{0, 0, 0}, {2, 0, 0}, {0, 2, 0, 0, 0, 0, 0, 0}, {0, 0, 2, 0, 0, 0, 0, 0, 0, 0}, {0, 0, 2, 0x3a, 0, 0, 0, 0, 0, 0}, {1, 0, 2, 0x3c, 0, 0, 0, 0, 0, 0}, {0, 0, 2, 0x3e, 0, 0, 0, 0, 0, 0}, {0, 0, 2, 0x3c, 0, 0, 0, 0, 0, 2}, {0, 0, 2, 0x3c, 0, 0, 0, 0, 2, 0x61, 0}} {
		decodesNot(t, b, 0, api.ErrGenForm)
	}
	decodes(t, []byte{0, 0, 2, 0x3c, 0, 0, 0, 0, 0, 0}, api.Code{Ins: ends(1)})
}

// P17.4, T6: bytes by chance, one of which is another one: what is read from them has these bytes and no others.
func TestOneForm(t *testing.T) {
	g := newGrower(186)
	seen := map[api.Errno]int{}
	for range 40000 {
		b := lay(g.code()).bytes
		for range 1 + g.Intn(2) {
			b[g.Intn(len(b))] = byte(g.any(0, 1, 2, 0x80, 0xff, g.Int63n(256)))
		}
		c, at, e := gen.Decode(b)
		seen[e]++
		switch again, _ := gen.Encode(c); {
		case e == api.OK && (at != 0 || !right(c) || !bytes.Equal(again, b)), e == api.ErrGenForm && at != 0, e != api.OK && !reflect.DeepEqual(c, api.Code{}), e == api.ErrGenByte && at > len(b):
			t.Fatalf("% x: %v, %d, %v", b, c, at, e)
		}
	}
	if seen[api.OK] < 2000 || seen[api.ErrGenForm] < 2000 || seen[api.ErrGenByte] < 2000 || len(seen) != 3 {
		t.Error(seen)
	}
}

// R3: what is handed in stays as it is, with its spare room; what is answered is new.
func TestBytesNewMemory(t *testing.T) {
	g := newGrower(187)
	for range 500 {
		c := g.code()
		b, _ := gen.Encode(c)
		was := slices.Clone(b)
		spare := append(slices.Clone(b), 7)[:len(b)]
		one, _, _ := gen.Decode(spare)
		two, _, _ := gen.Decode(spare)
		clear(one.Ins[:cap(one.Ins)])
		clear(one.Waits[:cap(one.Waits)])
		if !alike(two, c) || !bytes.Equal(spare, was) || spare[:len(b)+1][len(b)] != 7 {
			t.Fatal(two, c)
		}
		clear(spare)
		if !alike(two, c) {
			t.Fatal(two, c)
		}
		other, _ := gen.Encode(c)
		clear(b[:cap(b)])
		if !bytes.Equal(other, was) || !alike(two, c) || !right(c) {
			t.Fatal(other, was)
		}
	}
}
