package journal_test

import (
	"bytes"
	"math"
	"math/rand"
	"slices"
	"testing"

	"usance/api"
	"usance/disk"
	"usance/journal"
)

// of is a block's bytes, all the same.
func of(b byte) []byte {
	return bytes.Repeat([]byte{b}, journal.Bytes)
}

// some is blocks' bytes, each of one byte.
func some(s string) [][]byte {
	var out [][]byte
	for i := range len(s) {
		out = append(out, of(s[i]))
	}
	return out
}

// upTo is 0, 1 .. n - 1.
func upTo(n int) []int {
	out := make([]int, n)
	for i := range out {
		out[i] = i
	}
	return out
}

func mustDisk(t *testing.T, sectors int) *disk.Disk {
	t.Helper()
	d, e := disk.New(sectors)
	if e != api.OK {
		t.Fatalf("disk.New(%d): %v", sectors, e)
	}
	return d
}

func mustOpen(t *testing.T, d *disk.Disk) *journal.Journal {
	t.Helper()
	j, e := journal.Open(d)
	if e != api.OK || j == nil {
		t.Fatalf("Open: %v, %v", j, e)
	}
	return j
}

// begun is a new journal on a new disk.
func begun(t *testing.T, sectors int) (*disk.Disk, *journal.Journal) {
	t.Helper()
	d := mustDisk(t, sectors)
	if e := journal.Format(d); e != api.OK {
		t.Fatalf("Format: %v", e)
	}
	return d, mustOpen(t, d)
}

func mustWrite(t *testing.T, j *journal.Journal, at []int, b [][]byte) {
	t.Helper()
	if e := j.Write(at, b); e != api.OK {
		t.Fatalf("Write(%v): %v", at, e)
	}
}

// all is all blocks, read one by one.
func all(t *testing.T, j *journal.Journal) [][]byte {
	t.Helper()
	out := make([][]byte, j.Blocks())
	for at := range out {
		b, e := j.Read(at)
		if e != api.OK || len(b) != journal.Bytes {
			t.Fatalf("Read(%d): %d bytes, %v", at, len(b), e)
		}
		out[at] = b
	}
	return out
}

// holds checks all blocks: from the first one on those of want, behind them noughts.
func holds(t *testing.T, j *journal.Journal, seq int64, want string) {
	t.Helper()
	if j.Seq() != seq {
		t.Errorf("Seq: %d, want %d", j.Seq(), seq)
	}
	for at, b := range all(t, j) {
		w := of(0)
		if at < len(want) {
			w = of(want[at])
		}
		if !bytes.Equal(b, w) {
			t.Errorf("Read(%d): %q, want all %q", at, b, w[0])
		}
	}
}

// same: have two journals' blocks the same bytes?
func same(a, b [][]byte) bool {
	return slices.EqualFunc(a, b, bytes.Equal)
}

// litter writes any bytes into all sectors, as if something else lay there.
func litter(t *testing.T, d *disk.Disk, r *rand.Rand) {
	t.Helper()
	b := make([]byte, api.Sector)
	for at := range d.Sectors() {
		r.Read(b)
		if e := d.Write(at, b); e != api.OK {
			t.Fatal(e)
		}
	}
	d.Flush()
}

// P6.1, P6.2, P6.3: sizes
func TestSizes(t *testing.T) {
	for sectors, blocks := range map[int]int{32: 15, 33: 15, 34: 16, 35: 16, 40: 19, 41: 19, 60: 29, 256: 127, 16383: 8190, 16384: 8191} {
		d, j := begun(t, sectors)
		if j.Blocks() != blocks {
			t.Errorf("Blocks of %d sectors: %d, want %d", sectors, j.Blocks(), blocks)
		}
		holds(t, j, 0, "")
		mustWrite(t, j, []int{blocks - 1, 0}, some("yx"))
		k := mustOpen(t, d.Crash(nil))
		if b, e := k.Read(blocks - 1); e != api.OK || !bytes.Equal(b, of('y')) {
			t.Errorf("the last block of %d sectors: %q, %v", sectors, b, e)
		}
		if b, e := k.Read(0); e != api.OK || !bytes.Equal(b, of('x')) {
			t.Errorf("the first block of %d sectors: %q, %v", sectors, b, e)
		}
		if b, e := k.Read(blocks); len(b) != 0 || e != api.ErrArg {
			t.Errorf("the block behind the last one of %d sectors: %q, %v", sectors, b, e)
		}
	}
	for _, sectors := range []int{1, 2, 3, 30, 31} {
		d := mustDisk(t, sectors)
		if e := journal.Format(d); e != api.ErrJournalForm {
			t.Errorf("Format of %d sectors: %v", sectors, e)
		}
		if j, e := journal.Open(d); j != nil || e != api.ErrJournalForm {
			t.Errorf("Open of %d sectors: %v, %v", sectors, j, e)
		}
		if d.Ops() != 0 {
			t.Errorf("operations on %d sectors: %d", sectors, d.Ops())
		}
	}
}

// P6.1, P6.2, P6.3, P6.4, P6.5
func TestNil(t *testing.T) {
	if e := journal.Format(nil); e != api.ErrNil {
		t.Errorf("Format(nil): %v", e)
	}
	if j, e := journal.Open(nil); j != nil || e != api.ErrNil {
		t.Errorf("Open(nil): %v, %v", j, e)
	}
	var j *journal.Journal
	if j.Blocks() != 0 || j.Seq() != 0 {
		t.Errorf("Blocks, Seq of nil: %d, %d", j.Blocks(), j.Seq())
	}
	if b, e := j.Read(0); len(b) != 0 || e != api.ErrNil {
		t.Errorf("Read of nil: %q, %v", b, e)
	}
	if b, e := j.Read(-1); len(b) != 0 || e != api.ErrNil {
		t.Errorf("Read(-1) of nil: %q, %v", b, e)
	}
	for _, e := range []api.Errno{j.Write(nil, nil), j.Write([]int{0}, some("x")), j.Write([]int{0}, nil)} {
		if e != api.ErrNil {
			t.Errorf("Write of nil: %v", e)
		}
	}
}

// P6.1: whatever lay there.
func TestFormatOverWhateverLies(t *testing.T) {
	r := rand.New(rand.NewSource(1))
	for _, sectors := range []int{32, 33, 40} {
		d := mustDisk(t, sectors)
		for n := range 20 {
			if n%2 == 0 {
				litter(t, d, r)
			}
			if e := journal.Format(d); e != api.OK {
				t.Fatal(e)
			}
			j := mustOpen(t, d.Crash(nil))
			holds(t, j, 0, "")
			j = mustOpen(t, d)
			for range n {
				mustWrite(t, j, upTo(j.Blocks()), some(string(bytes.Repeat([]byte{'o'}, j.Blocks()))))
			}
			// A write that is noted, and not laid.
			d.CutAt(d.Ops() + j.Blocks() + 3)
			j.Write(upTo(j.Blocks()), some(string(bytes.Repeat([]byte{'p'}, j.Blocks()))))
			d.CutAt(-1)
		}
	}
}

// P6.1
func TestFormatOperations(t *testing.T) {
	for _, sectors := range []int{32, 33, 100, 16384} {
		d := mustDisk(t, sectors)
		if e := journal.Format(d); e != api.OK {
			t.Fatal(e)
		}
		ops := d.Ops()
		if ops > sectors+8 || d.Loose() != 0 {
			t.Errorf("Format of %d sectors: %d operations, %d loose", sectors, ops, d.Loose())
		}
		// The last one is a Flush: without it there are loose writes.
		z := mustDisk(t, sectors)
		z.CutAt(ops - 1)
		if e := journal.Format(z); e != api.ErrDiskOff || z.Loose() == 0 {
			t.Errorf("Format of %d sectors, cut at the last operation: %v, %d loose", sectors, e, z.Loose())
		}
	}
}

// P6.1: the disk's error, wherever it comes; and then Format makes good whatever it left.
func TestFormatWithoutPower(t *testing.T) {
	d := mustDisk(t, 32)
	for cut := 0; ; cut++ {
		d.CutAt(d.Ops() + cut)
		e := journal.Format(d)
		if e == api.OK {
			break
		}
		if e != api.ErrDiskOff {
			t.Fatalf("cut at %d: %v", cut, e)
		}
		z := d.Crash(upTo(cut / 2))
		journal.Open(z)
		if e := journal.Format(z); e != api.OK {
			t.Fatal(e)
		}
		holds(t, mustOpen(t, z), 0, "")
	}
	holds(t, mustOpen(t, d), 0, "")
	small := mustDisk(t, 31)
	small.CutAt(0)
	small.Flush()
	if e := journal.Format(small); e != api.ErrJournalForm {
		t.Errorf("Format of 31 sectors without power: %v", e)
	}
	if _, e := journal.Open(small); e != api.ErrJournalForm {
		t.Errorf("Open of 31 sectors without power: %v", e)
	}
}

// P6.2: no journal.
func TestOpenWhatIsNone(t *testing.T) {
	r := rand.New(rand.NewSource(2))
	for _, sectors := range []int{32, 33, 40} {
		d := mustDisk(t, sectors)
		if j, e := journal.Open(d); j != nil || e != api.ErrJournalForm {
			t.Errorf("Open of noughts: %v, %v", j, e)
		}
		for range 20 {
			litter(t, d, r)
			if j, e := journal.Open(d); j != nil || e != api.ErrJournalForm {
				t.Errorf("Open of litter: %v, %v", j, e)
			}
		}
		for at := range sectors {
			d.Write(at, bytes.Repeat([]byte{0xFF}, api.Sector))
		}
		ops := d.Ops()
		if j, e := journal.Open(d); j != nil || e != api.ErrJournalForm {
			t.Errorf("Open of FF: %v, %v", j, e)
		}
		if d.Ops() != ops {
			t.Errorf("Open of none took %d operations", d.Ops()-ops)
		}
	}
}

// P6.2: a disk without power; whose power goes later, Open has nothing to lay.
func TestOpenWithoutPower(t *testing.T) {
	d, _ := begun(t, 32)
	d.CutAt(0)
	mustOpen(t, d)
	d.Flush()
	if j, e := journal.Open(d); j != nil || e != api.ErrDiskOff {
		t.Errorf("Open: %v, %v", j, e)
	}
	d.CutAt(-1)
	mustOpen(t, d)
}

// P6.3, P6.4: the examples of the chapter.
func TestExamples(t *testing.T) {
	d := mustDisk(t, 40)
	if _, e := journal.Open(d); e != api.ErrJournalForm {
		t.Error(e)
	}
	d, j := begun(t, 40)
	if j.Blocks() != 19 || j.Seq() != 0 {
		t.Error(j.Blocks(), j.Seq())
	}
	if b, e := j.Read(18); e != api.OK || !bytes.Equal(b, of(0)) {
		t.Error(b, e)
	}
	if b, e := j.Read(19); len(b) != 0 || e != api.ErrArg {
		t.Error(b, e)
	}
	mustWrite(t, j, []int{3, 5}, some("xy"))
	holds(t, j, 1, "\x00\x00\x00x\x00y")
	if e := j.Write([]int{3, 3}, some("xy")); e != api.ErrArg {
		t.Error(e)
	}
	mustWrite(t, j, nil, nil)
	holds(t, j, 1, "\x00\x00\x00x\x00y")
	d.CutAt(d.Ops() + 2)
	if e := j.Write([]int{3}, some("z")); e != api.ErrDiskOff {
		t.Error(e)
	}
	if b, e := j.Read(3); len(b) != 0 || e != api.ErrDiskOff {
		t.Error(b, e)
	}
	holds(t, mustOpen(t, d.Crash(nil)), 1, "\x00\x00\x00x\x00y")
}

// P6.3
func TestReadWhere(t *testing.T) {
	_, j := begun(t, 33)
	for _, at := range []int{math.MinInt, -15, -2, -1, 15, 16, 17, 31, 32, 33, 1 << 32, math.MaxInt} {
		if b, e := j.Read(at); len(b) != 0 || e != api.ErrArg {
			t.Errorf("Read(%d): %q, %v", at, b, e)
		}
	}
	holds(t, j, 0, "")
}

// P6.3, P6.4: any bytes are read as they were written, also those that the journal itself lays.
func TestReadIsWhatWasWritten(t *testing.T) {
	d, j := begun(t, 40)
	r := rand.New(rand.NewSource(3))
	want := all(t, j)
	for n := range 200 {
		at := r.Perm(19)[:1+r.Intn(19)]
		var b [][]byte
		for _, i := range at {
			one := make([]byte, journal.Bytes)
			switch r.Intn(3) {
			case 0:
				r.Read(one)
			case 1:
				lies, _ := d.Read(r.Intn(40))
				copy(one, lies)
			}
			b = append(b, one)
			want[i] = slices.Clone(one)
		}
		mustWrite(t, j, at, b)
		if !same(all(t, j), want) || j.Seq() != int64(n+1) {
			t.Fatalf("behind %d writes: Seq %d", n+1, j.Seq())
		}
		k := mustOpen(t, d.Crash(nil))
		if !same(all(t, k), want) || k.Seq() != int64(n+1) {
			t.Fatalf("opened behind %d writes: Seq %d", n+1, k.Seq())
		}
		if n%7 == 0 {
			j = mustOpen(t, d)
		}
	}
}

// P6.4: what is refused changes nothing, and is no operation.
func TestWriteRefused(t *testing.T) {
	d, j := begun(t, 40)
	mustWrite(t, j, []int{0, 18}, some("ab"))
	ops := d.Ops()
	long, short := of('x'), of('x')[:111]
	long = append(long, 'x')
	for _, x := range []struct {
		at []int
		b  [][]byte
	}{
		{[]int{0}, nil}, {nil, some("x")}, {[]int{0, 1}, some("x")}, {[]int{0}, some("xy")},
		{[]int{-1}, some("x")}, {[]int{19}, some("x")}, {[]int{0, 19}, some("xy")}, {[]int{0, -1}, some("xy")},
		{[]int{math.MinInt}, some("x")}, {[]int{math.MaxInt}, some("x")}, {[]int{1 << 32}, some("x")},
		{[]int{3, 3}, some("xy")}, {[]int{3, 3}, some("xx")}, {[]int{0, 1, 2, 0}, some("wxyz")}, {[]int{1, 2, 3, 4, 3}, some("vwxyz")},
		{append(upTo(19), 18), some("xxxxxxxxxxxxxxxxxxxx")},
		{[]int{0}, [][]byte{short}}, {[]int{0}, [][]byte{long}}, {[]int{0}, [][]byte{nil}}, {[]int{0}, [][]byte{{}}},
		{[]int{0, 1}, [][]byte{of('x'), short}}, {[]int{0, 1}, [][]byte{long, of('x')}}, {[]int{0, 1}, [][]byte{long, short}},
		{[]int{0}, [][]byte{bytes.Repeat([]byte{'x'}, api.Sector)}},
	} {
		if e := j.Write(x.at, x.b); e != api.ErrArg {
			t.Errorf("Write(%v, %d): %v", x.at, len(x.b), e)
		}
	}
	want := "a" + string(make([]byte, 17)) + "b"
	holds(t, j, 1, want)
	if d.Ops() != ops || d.Loose() != 0 {
		t.Errorf("operations of what is refused: %d, loose %d", d.Ops()-ops, d.Loose())
	}
	holds(t, mustOpen(t, d.Crash(nil)), 1, want)
	mustWrite(t, j, []int{0}, some("c"))
	holds(t, j, 2, "c"+want[1:])
}

// P6.4: of no blocks nothing is done, not even with the disk.
func TestWriteNone(t *testing.T) {
	d, j := begun(t, 32)
	mustWrite(t, j, []int{1}, some("x"))
	ops := d.Ops()
	d.CutAt(0)
	mustWrite(t, j, nil, nil)
	mustWrite(t, j, []int{}, [][]byte{})
	mustWrite(t, j, nil, [][]byte{})
	if d.Ops() != ops {
		t.Errorf("operations: %d", d.Ops()-ops)
	}
	holds(t, j, 1, "\x00x")
}

// P6.2, P6.4: the operations that are taken, and that all of it lasts then.
func TestWriteOperations(t *testing.T) {
	for _, sectors := range []int{32, 33, 101, 16384} {
		d, j := begun(t, sectors)
		for i, k := range []int{1, 2, 3, 15, j.Blocks() - 1, j.Blocks()} {
			at := upTo(j.Blocks())[j.Blocks()-k:]
			slices.Reverse(at)
			ops := d.Ops()
			mustWrite(t, j, at, some(string(bytes.Repeat([]byte{byte('a' + i)}, k))))
			if d.Ops()-ops > 2*k+8 {
				t.Errorf("%d blocks of %d: %d operations", k, j.Blocks(), d.Ops()-ops)
			}
			z := mustOpen(t, d.Crash(nil))
			if z.Seq() != int64(i+1) {
				t.Errorf("Seq: %d, want %d", z.Seq(), i+1)
			}
			if !same(all(t, z), all(t, j)) {
				t.Errorf("%d blocks of %d: lost", k, j.Blocks())
			}
		}
	}
}

// P6.2: where all blocks have to be laid.
func TestOpenOperations(t *testing.T) {
	for _, sectors := range []int{32, 33, 100} {
		d, j := begun(t, sectors)
		k := j.Blocks()
		most := 0
		for cut := range 2*k + 9 {
			z := d.Crash(nil)
			j := mustOpen(t, z)
			z.CutAt(z.Ops() + cut)
			j.Write(upTo(k), some(string(bytes.Repeat([]byte{'x'}, k))))
			for _, stay := range [][]int{nil, upTo(z.Loose()), upTo(z.Loose() / 2)} {
				y := z.Crash(stay)
				mustOpen(t, y)
				most = max(most, y.Ops())
			}
			z.CutAt(-1)
			ops := z.Ops()
			mustOpen(t, z)
			most = max(most, z.Ops()-ops)
		}
		if most > k+8 || most < k {
			t.Errorf("Open of %d blocks: up to %d operations", k, most)
		}
	}
}

// P6.3, P6.4: it is off as soon as the disk has answered it an error, also when the power is there again.
func TestOff(t *testing.T) {
	for _, first := range []func(j *journal.Journal) api.Errno{
		func(j *journal.Journal) api.Errno { _, e := j.Read(0); return e },
		func(j *journal.Journal) api.Errno { return j.Write([]int{0}, some("z")) },
	} {
		d, j := begun(t, 32)
		mustWrite(t, j, []int{0}, some("x"))
		d.CutAt(0)
		d.Flush()
		// An argument that is wrong is no question to the disk.
		if _, e := j.Read(15); e != api.ErrArg {
			t.Errorf("Read(15): %v", e)
		}
		if e := j.Write([]int{15}, some("z")); e != api.ErrArg {
			t.Errorf("Write(15): %v", e)
		}
		if e := first(j); e != api.ErrDiskOff {
			t.Errorf("without power: %v", e)
		}
		d.CutAt(-1)
		for _, at := range []int{0, 14, 15, -1} {
			if b, e := j.Read(at); len(b) != 0 || e != api.ErrDiskOff {
				t.Errorf("Read(%d) of one that is off: %q, %v", at, b, e)
			}
		}
		for _, e := range []api.Errno{
			j.Write(nil, nil), j.Write([]int{0}, some("z")), j.Write([]int{15}, some("z")), j.Write([]int{0, 0}, some("zz")), j.Write(nil, some("z")),
		} {
			if e != api.ErrDiskOff {
				t.Errorf("Write of one that is off: %v", e)
			}
		}
		if j.Blocks() != 15 || j.Seq() != 1 {
			t.Errorf("Blocks, Seq of one that is off: %d, %d", j.Blocks(), j.Seq())
		}
		holds(t, mustOpen(t, d), 1, "x")
	}
}

// P6.1, P6.2, P6.4: a disk that is full answers so, wherever in a Write it is; and all of the write is there, or none.
func TestFullDisk(t *testing.T) {
	for _, left := range []int{0, 1, 3, 4, 5, 6, 7} {
		d, j := begun(t, 32)
		mustWrite(t, j, []int{1, 2}, some("ab"))
		for d.Ops() < api.MaxWrites-left {
			d.Flush()
		}
		if e := j.Write([]int{1, 2}, some("xy")); e != api.ErrDiskFull {
			t.Errorf("Write with %d operations left: %v", left, e)
		}
		if _, e := j.Read(1); e != api.ErrDiskFull {
			t.Errorf("Read behind it: %v", e)
		}
		if e := journal.Format(d); e != api.ErrDiskFull {
			t.Errorf("Format of a full disk: %v", e)
		}
		for _, stay := range [][]int{nil, {0}, {1}, {0, 1}} {
			k := mustOpen(t, d.Crash(stay))
			if k.Seq() == 2 {
				holds(t, k, 2, "\x00xy")
			} else {
				holds(t, k, 1, "\x00ab")
			}
		}
		// Without a crash Open has nothing to do there, or can't do it.
		if k, e := journal.Open(d); e == api.OK {
			holds(t, k, 1, "\x00ab")
		} else if k != nil || e != api.ErrDiskFull || left == 0 {
			t.Errorf("Open of a full disk, %d: %v, %v", left, k, e)
		}
	}
}

// R3: nothing that is handed in is kept or written into, and what is answered is new memory.
func TestMemory(t *testing.T) {
	d, j := begun(t, 32)
	room := bytes.Repeat([]byte{'r'}, 300)
	x := room[10 : 10+journal.Bytes]
	at := append(make([]int, 0, 10), 4, 2)
	b := append(make([][]byte, 0, 10), x, of('y'))
	mustWrite(t, j, at, b)
	if !bytes.Equal(room, bytes.Repeat([]byte{'r'}, 300)) || !slices.Equal(at, []int{4, 2}) || !bytes.Equal(b[1], of('y')) || at[:10][2] != 0 || b[:10][2] != nil {
		t.Error("Write wrote into what it was handed")
	}
	copy(x, of('z'))
	at[0], b[1][0] = 7, 'z'
	holds(t, j, 1, "\x00\x00y\x00r")
	for range 2 {
		got, _ := j.Read(4)
		got = append(got, 'z', 'z')
		got = got[:cap(got)]
		for i := range got {
			got[i] = 'z'
		}
		holds(t, j, 1, "\x00\x00y\x00r")
		holds(t, mustOpen(t, d), 1, "\x00\x00y\x00r")
	}
	one, _ := j.Read(4)
	two, _ := j.Read(4)
	one[0] = 'z'
	if two[0] != 'r' {
		t.Error("two answers share memory")
	}
}

// R4: two journals have nothing to do with each other.
func TestTwoJournals(t *testing.T) {
	d, j := begun(t, 32)
	_, k := begun(t, 32)
	mustWrite(t, j, []int{0}, some("j"))
	mustWrite(t, k, []int{1}, some("k"))
	d.CutAt(0)
	j.Write([]int{0}, some("z"))
	holds(t, k, 1, "\x00k")
	mustWrite(t, k, []int{0}, some("k"))
	holds(t, k, 2, "kk")
	holds(t, mustOpen(t, d.Crash(nil)), 1, "j")
}
