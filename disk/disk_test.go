package disk_test

import (
	"bytes"
	"math"
	"slices"
	"testing"

	"usance/api"
	"usance/disk"
)

// filled is a sector's bytes, all the same.
func filled(b byte) []byte {
	return bytes.Repeat([]byte{b}, api.Sector)
}

// mustNew is a disk of so many sectors.
func mustNew(t *testing.T, sectors int) *disk.Disk {
	t.Helper()
	d, e := disk.New(sectors)
	if e != api.OK || d == nil {
		t.Fatalf("New(%d): %v", sectors, e)
	}
	return d
}

// mustWrite lays a sector of b.
func mustWrite(t *testing.T, d *disk.Disk, at int, b byte) {
	t.Helper()
	if e := d.Write(at, filled(b)); e != api.OK {
		t.Fatalf("Write(%d, %q): %v", at, b, e)
	}
}

func mustFlush(t *testing.T, d *disk.Disk) {
	t.Helper()
	if e := d.Flush(); e != api.OK {
		t.Fatalf("Flush: %v", e)
	}
}

// holds checks the sectors from the first one on, each filled with one byte.
func holds(t *testing.T, d *disk.Disk, want string) {
	t.Helper()
	for at := range len(want) {
		b, e := d.Read(at)
		if e != api.OK || !bytes.Equal(b, filled(want[at])) {
			t.Errorf("Read(%d): %q, %v, want all %q", at, b, e, want[at])
		}
	}
}

// counts checks how many operations and loose writes there are.
func counts(t *testing.T, d *disk.Disk, ops, loose int) {
	t.Helper()
	if d.Ops() != ops || d.Loose() != loose {
		t.Errorf("Ops, Loose: %d, %d, want %d, %d", d.Ops(), d.Loose(), ops, loose)
	}
}

// P4.1
func TestNew(t *testing.T) {
	for _, n := range []int{1, 2, 4, 100, 16383, 16384} {
		d := mustNew(t, n)
		if d.Sectors() != n {
			t.Errorf("New(%d).Sectors: %d", n, d.Sectors())
		}
		counts(t, d, 0, 0)
		for at := range n {
			if b, e := d.Read(at); e != api.OK || !bytes.Equal(b, filled(0)) {
				t.Fatalf("New(%d).Read(%d): %q, %v", n, at, b, e)
			}
		}
		mustWrite(t, d, n-1, 'x')
		mustFlush(t, d)
		if d.Sectors() != n {
			t.Errorf("Sectors behind a write: %d, want %d", d.Sectors(), n)
		}
	}
	for _, n := range []int{math.MinInt, -16384, -1, 0, 16385, 32768, 1 << 32, 1<<32 + 1, math.MaxInt} {
		if d, e := disk.New(n); d != nil || e != api.ErrDiskSize {
			t.Errorf("New(%d): %v, %v", n, d, e)
		}
	}
}

// P4.1, P4.2
func TestCounts(t *testing.T) {
	d := mustNew(t, 3)
	mustFlush(t, d)
	counts(t, d, 1, 0)
	mustWrite(t, d, 0, 'a')
	counts(t, d, 2, 1)
	mustWrite(t, d, 0, 'a')
	counts(t, d, 3, 2)
	if e := d.Write(3, filled('b')); e != api.ErrDiskAt {
		t.Error(e)
	}
	if e := d.Write(0, nil); e != api.ErrDiskLen {
		t.Error(e)
	}
	d.Read(0)
	d.Poke(1, 0, 'c')
	d.Crash([]int{0})
	counts(t, d, 3, 2)
	mustFlush(t, d)
	counts(t, d, 4, 0)
	mustFlush(t, d)
	counts(t, d, 5, 0)
	mustWrite(t, d, 2, 'a')
	counts(t, d, 6, 1)
}

// P4.2
func TestReadAndWriteWhere(t *testing.T) {
	for _, sectors := range []int{1, 4, 16384} {
		d := mustNew(t, sectors)
		for _, at := range []int{0, sectors - 1} {
			mustWrite(t, d, at, 'x')
			if b, e := d.Read(at); e != api.OK || !bytes.Equal(b, filled('x')) {
				t.Errorf("Read(%d) of %d: %q, %v", at, sectors, b, e)
			}
		}
		for _, at := range []int{math.MinInt, -sectors, -1, sectors, sectors + 1, 1 << 32, math.MaxInt} {
			if b, e := d.Read(at); len(b) != 0 || e != api.ErrDiskAt {
				t.Errorf("Read(%d) of %d: %q, %v", at, sectors, b, e)
			}
			if e := d.Write(at, filled('x')); e != api.ErrDiskAt {
				t.Errorf("Write(%d) of %d: %v", at, sectors, e)
			}
			if e := d.Write(at, nil); e != api.ErrDiskAt {
				t.Errorf("Write(%d, none) of %d: %v", at, sectors, e)
			}
		}
		counts(t, d, 2, 2)
	}
}

// P4.2
func TestWriteLength(t *testing.T) {
	d := mustNew(t, 2)
	mustWrite(t, d, 1, 'x')
	for n := range 4 * api.Sector {
		want := api.ErrDiskLen
		if n == 128 {
			want = api.OK
		}
		if e := d.Write(1, bytes.Repeat([]byte{'y'}, n)); e != want {
			t.Errorf("Write of %d bytes: %v, want %v", n, e, want)
		}
		if n == 127 {
			holds(t, d, "\x00x")
			counts(t, d, 1, 1)
		}
	}
	holds(t, d, "\x00y")
	counts(t, d, 2, 2)
}

// P4.2: every byte of a sector is laid, loose or not, and no other sector's.
func TestReadIsWhatWasWritten(t *testing.T) {
	d := mustNew(t, 3)
	b := make([]byte, api.Sector)
	for i := range b {
		b[i] = byte(255 - 2*i)
	}
	mustWrite(t, d, 1, 'x')
	if e := d.Write(1, b); e != api.OK {
		t.Fatal(e)
	}
	for range 2 {
		if got, e := d.Read(1); e != api.OK || !bytes.Equal(got, b) {
			t.Errorf("Read: %v, %v", got, e)
		}
		if got, _ := d.Read(0); !bytes.Equal(got, filled(0)) {
			t.Errorf("Read of another: %v", got)
		}
		if got, _ := d.Read(2); !bytes.Equal(got, filled(0)) {
			t.Errorf("Read of another: %v", got)
		}
		mustFlush(t, d)
	}
}

// P4.1, P4.2: the power goes at a Write or a Flush, not ahead of it, whatever the arguments are.
func TestPowerGoes(t *testing.T) {
	for _, x := range []struct {
		name string
		call func(d *disk.Disk) api.Errno
	}{
		{"right", func(d *disk.Disk) api.Errno { return d.Write(0, filled('z')) }},
		{"no sector", func(d *disk.Disk) api.Errno { return d.Write(9, filled('z')) }},
		{"too short", func(d *disk.Disk) api.Errno { return d.Write(0, nil) }},
		{"neither", func(d *disk.Disk) api.Errno { return d.Write(-1, nil) }},
		{"Flush", func(d *disk.Disk) api.Errno { return d.Flush() }},
	} {
		for cut := range 4 {
			d := mustNew(t, 2)
			mustWrite(t, d, 0, 'a')
			mustFlush(t, d)
			mustWrite(t, d, 1, 'b')
			d.CutAt(cut)
			holds(t, d, "ab")
			for range 3 {
				if e := x.call(d); e != api.ErrDiskOff {
					t.Errorf("%s, CutAt(%d): %v", x.name, cut, e)
				}
				for _, at := range []int{0, 1, 2, -1} {
					if b, e := d.Read(at); len(b) != 0 || e != api.ErrDiskOff {
						t.Errorf("%s, CutAt(%d): Read(%d): %q, %v", x.name, cut, at, b, e)
					}
				}
				counts(t, d, 3, 1)
			}
			if d.Sectors() != 2 {
				t.Errorf("Sectors without power: %d", d.Sectors())
			}
			d.CutAt(-1)
			holds(t, d, "ab")
			counts(t, d, 3, 1)
			holds(t, d.Crash(nil), "a\x00")
		}
	}
}

// P4.1: it goes at a later operation; what is refused is none.
func TestPowerGoesLater(t *testing.T) {
	d := mustNew(t, 2)
	mustWrite(t, d, 0, 'a')
	d.CutAt(3)
	mustWrite(t, d, 0, 'b')
	for range 3 {
		if e := d.Write(2, filled('c')); e != api.ErrDiskAt {
			t.Error(e)
		}
		if e := d.Write(0, filled('c')[1:]); e != api.ErrDiskLen {
			t.Error(e)
		}
		d.Read(0)
		d.Poke(1, 0, 0)
	}
	mustFlush(t, d)
	holds(t, d, "b\x00")
	if e := d.Flush(); e != api.ErrDiskOff {
		t.Errorf("the fourth operation: %v", e)
	}
	if e := d.Write(0, filled('c')); e != api.ErrDiskOff {
		t.Errorf("behind it: %v", e)
	}
	counts(t, d, 3, 0)
}

// P4.1: another CutAt is the one that holds, also where it comes ahead of the call at which the power would go.
func TestPowerIsThereAgain(t *testing.T) {
	d := mustNew(t, 1)
	d.CutAt(0)
	d.CutAt(1)
	mustWrite(t, d, 0, 'a')
	if e := d.Flush(); e != api.ErrDiskOff {
		t.Error(e)
	}
	d.CutAt(0)
	holds(t, d, "a")
	if e := d.Write(0, nil); e != api.ErrDiskOff {
		t.Error(e)
	}
	d.CutAt(3)
	mustWrite(t, d, 0, 'b')
	mustWrite(t, d, 0, 'c')
	if e := d.Write(0, filled('d')); e != api.ErrDiskOff {
		t.Error(e)
	}
	for _, never := range []int{-1, -2, math.MinInt} {
		d.CutAt(0)
		d.Flush()
		d.CutAt(never)
		mustFlush(t, d)
		mustWrite(t, d, 0, 'e')
		holds(t, d, "e")
	}
	d.CutAt(math.MaxInt)
	for range 100 {
		mustFlush(t, d)
	}
}

// P4.2: so many operations there may be; the errors named ahead of ErrDiskFull come first.
func TestFull(t *testing.T) {
	d := mustNew(t, 2)
	b := filled('x')
	for n := range 1 << 20 {
		e := api.OK
		if n%1000 == 999 {
			e = d.Flush()
		} else {
			e = d.Write(n%2, b)
		}
		if e != api.OK {
			t.Fatalf("operation %d: %v", n, e)
		}
	}
	loose := (1 << 20) % 1000
	counts(t, d, 1<<20, loose)
	for _, x := range []struct {
		got, want api.Errno
	}{
		{d.Write(0, filled('y')), api.ErrDiskFull}, {d.Flush(), api.ErrDiskFull},
		{d.Write(0, b[1:]), api.ErrDiskLen}, {d.Write(2, b), api.ErrDiskAt}, {d.Write(2, nil), api.ErrDiskAt},
		{d.Poke(0, 0, 'x'), api.OK},
	} {
		if x.got != x.want {
			t.Errorf("a full disk: %v, want %v", x.got, x.want)
		}
	}
	counts(t, d, 1<<20, loose)
	holds(t, d, "xx")
	d.CutAt(1<<20 + 1)
	if e := d.Flush(); e != api.ErrDiskFull {
		t.Errorf("a full disk, whose power would go later: %v", e)
	}
	d.CutAt(1 << 20)
	if e := d.Flush(); e != api.ErrDiskOff {
		t.Errorf("a full disk, whose power goes: %v", e)
	}
	z := d.Crash(nil)
	holds(t, z, "xx")
	mustWrite(t, z, 0, 'y')
	mustFlush(t, z)
	counts(t, z, 2, 0)
}

// P4.3
func TestCrash(t *testing.T) {
	d := mustNew(t, 4)
	mustWrite(t, d, 0, 'f')
	mustWrite(t, d, 1, 'f')
	mustFlush(t, d)
	mustWrite(t, d, 1, 'a') // 0
	mustWrite(t, d, 2, 'b') // 1
	mustWrite(t, d, 1, 'c') // 2
	mustWrite(t, d, 2, 'd') // 3
	for _, x := range []struct {
		stay []int
		want string
	}{
		{nil, "ff\x00\x00"}, {[]int{}, "ff\x00\x00"}, {[]int{0}, "fa\x00\x00"}, {[]int{2}, "fc\x00\x00"}, {[]int{0, 2}, "fc\x00\x00"},
		{[]int{2, 0}, "fc\x00\x00"}, {[]int{1}, "ffb\x00"}, {[]int{3, 1}, "ffd\x00"}, {[]int{1, 0}, "fab\x00"}, {[]int{0, 1, 2, 3}, "fcd\x00"},
		{[]int{3, 2, 1, 0}, "fcd\x00"}, {[]int{0, 0, 0}, "fa\x00\x00"}, {[]int{2, 0, 2, 0}, "fc\x00\x00"}, {[]int{0, 2, 0}, "fc\x00\x00"},
		{[]int{4}, "ff\x00\x00"}, {[]int{-1}, "ff\x00\x00"}, {[]int{-1, 0, 4, 9}, "fa\x00\x00"},
		{[]int{math.MinInt, 3, math.MaxInt, 1 << 32, -4, -3, -2}, "ffd\x00"},
	} {
		z := d.Crash(x.stay)
		if z.Sectors() != 4 {
			t.Errorf("Crash(%v).Sectors: %d", x.stay, z.Sectors())
		}
		counts(t, z, 0, 0)
		holds(t, z, x.want)
		holds(t, z.Crash([]int{0, 1, 2, 3}), x.want)
		holds(t, d, "fcd\x00")
		counts(t, d, 7, 4)
	}
}

// P4.3: writes behind a Flush are numbered from 0 on again; those ahead of it have no numbers any more.
func TestCrashNumbersBehindFlush(t *testing.T) {
	d := mustNew(t, 3)
	mustWrite(t, d, 0, 'a')
	mustWrite(t, d, 1, 'b')
	mustFlush(t, d)
	holds(t, d.Crash([]int{0, 1}), "ab\x00")
	mustWrite(t, d, 2, 'c')
	holds(t, d.Crash([]int{0}), "abc")
	holds(t, d.Crash([]int{1, 2}), "ab\x00")
	mustFlush(t, d)
	mustFlush(t, d)
	mustWrite(t, d, 0, 'd')
	holds(t, d.Crash([]int{0}), "dbc")
	holds(t, d.Crash([]int{1, 2, 3}), "abc")
}

// P4.3: a Write or a Flush that was refused is no loose write, and keeps none.
func TestCrashBehindRefusals(t *testing.T) {
	d := mustNew(t, 2)
	mustWrite(t, d, 0, 'a')
	d.Write(2, filled('x'))
	d.Write(1, filled('x')[:127])
	d.CutAt(0)
	d.Write(1, filled('x'))
	d.Flush()
	counts(t, d, 1, 1)
	holds(t, d.Crash(nil), "\x00\x00")
	holds(t, d.Crash([]int{0, 1, 2, 3}), "a\x00")
}

// P4.3: the two disks have nothing in common, and the power of the new one never goes.
func TestCrashIsAnotherDisk(t *testing.T) {
	d := mustNew(t, 2)
	mustWrite(t, d, 0, 'a')
	mustFlush(t, d)
	mustWrite(t, d, 1, 'b')
	d.CutAt(3)
	d.Flush()
	z := d.Crash([]int{0})
	holds(t, z, "ab")
	for range 5 {
		mustWrite(t, z, 0, 'x')
		mustWrite(t, z, 1, 'y')
		mustFlush(t, z)
	}
	mustWrite(t, z, 0, 'z')
	z.Poke(1, 0, 'z')
	if _, e := d.Read(0); e != api.ErrDiskOff {
		t.Errorf("the power of the crashed disk: %v", e)
	}
	d.CutAt(-1)
	holds(t, d, "ab")
	counts(t, d, 3, 1)
	holds(t, d.Crash(nil), "a\x00")
	mustWrite(t, d, 0, 'p')
	mustFlush(t, d)
	d.Poke(1, 0, 'p')
	counts(t, z, 16, 1)
	if b, _ := z.Read(1); b[0] != 'z' || b[1] != 'y' {
		t.Errorf("Read: %q", b)
	}
	holds(t, z, "z")

	z = d.Crash(nil)
	z.CutAt(0)
	z.Flush()
	mustFlush(t, d)
	late := mustNew(t, 1)
	late.CutAt(1)
	z = late.Crash(nil)
	mustFlush(t, z)
	mustFlush(t, z)
	mustFlush(t, late)
	if e := late.Flush(); e != api.ErrDiskOff {
		t.Errorf("a crash has moved the crashed disk's cut: %v", e)
	}
}

// P4.4
func TestPokeWhere(t *testing.T) {
	for _, off := range []bool{false, true} {
		d := mustNew(t, 3)
		if off {
			d.CutAt(0)
			d.Flush()
		}
		for _, x := range []struct {
			at, place int
			want      api.Errno
		}{
			{0, 0, api.OK}, {0, 127, api.OK}, {2, 0, api.OK}, {2, 127, api.OK},
			{0, -1, api.ErrArg}, {0, 128, api.ErrArg}, {2, 129, api.ErrArg}, {1, math.MinInt, api.ErrArg}, {1, math.MaxInt, api.ErrArg}, {1, 1 << 32, api.ErrArg},
			{3, 0, api.ErrDiskAt}, {-1, 127, api.ErrDiskAt}, {math.MinInt, 0, api.ErrDiskAt}, {math.MaxInt, 0, api.ErrDiskAt}, {1 << 32, 0, api.ErrDiskAt},
			{3, 128, api.ErrDiskAt}, {-1, -1, api.ErrDiskAt},
		} {
			if e := d.Poke(x.at, x.place, 'p'); e != x.want {
				t.Errorf("Poke(%d, %d), without power %v: %v, want %v", x.at, x.place, off, e, x.want)
			}
		}
		if _, e := d.Read(0); off && e != api.ErrDiskOff {
			t.Errorf("Read behind a Poke without power: %v", e)
		}
		d.CutAt(-1)
		counts(t, d, 0, 0)
		want := filled(0)
		want[0], want[127] = 'p', 'p'
		for at, w := range [][]byte{want, filled(0), want} {
			if b, _ := d.Read(at); !bytes.Equal(b, w) {
				t.Errorf("Read(%d): %q, want %q", at, b, w)
			}
			if b, _ := d.Crash(nil).Read(at); !bytes.Equal(b, w) {
				t.Errorf("Crash(none).Read(%d): %q, want %q", at, b, w)
			}
		}
	}
}

// P4.4: a byte is turned as it is read, as it was flushed, and in each loose write of its sector, and nowhere else.
func TestPokeEverywhere(t *testing.T) {
	for _, off := range []bool{false, true} {
		d := mustNew(t, 2)
		mustWrite(t, d, 0, 'f')
		mustFlush(t, d)
		mustWrite(t, d, 0, 'a')
		mustWrite(t, d, 1, 'b')
		mustWrite(t, d, 0, 'c')
		if off {
			d.CutAt(0)
			d.Flush()
		}
		if e := d.Poke(0, 5, '!'); e != api.OK {
			t.Fatal(e)
		}
		d.CutAt(-1)
		counts(t, d, 5, 3)
		for _, x := range []struct {
			stay []int
			want byte
		}{{nil, 'f'}, {[]int{0}, 'a'}, {[]int{2}, 'c'}, {[]int{0, 1, 2}, 'c'}} {
			want := filled(x.want)
			want[5] = '!'
			if b, _ := d.Crash(x.stay).Read(0); !bytes.Equal(b, want) {
				t.Errorf("Crash(%v): %q, want %q", x.stay, b, want)
			}
			if b, _ := d.Crash([]int{1}).Read(1); !bytes.Equal(b, filled('b')) {
				t.Errorf("another sector's write: %q", b)
			}
		}
		want := filled('c')
		want[5] = '!'
		if b, _ := d.Read(0); !bytes.Equal(b, want) {
			t.Errorf("Read: %q", b)
		}
		mustFlush(t, d)
		if b, _ := d.Crash(nil).Read(0); !bytes.Equal(b, want) {
			t.Errorf("behind a Flush: %q", b)
		}
		mustWrite(t, d, 0, 'n')
		if b, _ := d.Read(0); !bytes.Equal(b, filled('n')) {
			t.Errorf("behind a Write: %q", b)
		}
	}
}

// P4.5
func TestNil(t *testing.T) {
	var d *disk.Disk
	if d.Sectors() != 0 {
		t.Errorf("Sectors: %d", d.Sectors())
	}
	counts(t, d, 0, 0)
	d.CutAt(0)
	if b, e := d.Read(0); len(b) != 0 || e != api.ErrNil {
		t.Errorf("Read: %q, %v", b, e)
	}
	for _, e := range []api.Errno{d.Write(0, filled('x')), d.Write(-1, nil), d.Flush(), d.Poke(0, 0, 0), d.Poke(-1, -1, 0)} {
		if e != api.ErrNil {
			t.Errorf("of a nil disk: %v", e)
		}
	}
	if z := d.Crash([]int{0}); z != nil {
		t.Errorf("Crash: %v", z)
	}
}

// P4.5, R3: neither side sees what the other one turns.
func TestNothingIsShared(t *testing.T) {
	d := mustNew(t, 2)
	room := append(filled('a'), "spare room"...)
	b := room[:api.Sector]
	if e := d.Write(0, b); e != api.OK {
		t.Fatal(e)
	}
	mustWrite(t, d, 1, 'b')
	for i := range room {
		room[i] = 'X'
	}
	holds(t, d, "ab")
	holds(t, d.Crash([]int{0}), "a\x00")
	mustFlush(t, d)
	holds(t, d.Crash(nil), "ab")
	d.Poke(0, 0, 'q')
	mustWrite(t, d, 0, 'c')
	if !bytes.Equal(room, bytes.Repeat([]byte{'X'}, len(room))) {
		t.Errorf("what was handed in: %q", room)
	}

	first, _ := d.Read(0)
	second, _ := d.Read(0)
	for i := range first {
		first[i] = 'Y'
	}
	_ = append(first, "more and more"...)
	if !bytes.Equal(second, filled('c')) {
		t.Errorf("two answers share memory: %q", second)
	}
	holds(t, d, "cb")
	mustWrite(t, d, 0, 'd')
	if !bytes.Equal(second, filled('c')) {
		t.Errorf("an answer is turned by a Write: %q", second)
	}
	d.Poke(0, 0, 'e')
	if !bytes.Equal(second, filled('c')) {
		t.Errorf("an answer is turned by a Poke: %q", second)
	}

	stay := []int{3, 1, 3, -1, 0, 9, 9, 9}
	d.Crash(stay[:5])
	if !slices.Equal(stay, []int{3, 1, 3, -1, 0, 9, 9, 9}) {
		t.Errorf("stay is turned: %v", stay)
	}
}

// The document's examples.
func TestExamples(t *testing.T) {
	d := mustNew(t, 4)
	mustWrite(t, d, 1, 'x')
	mustFlush(t, d)
	mustWrite(t, d, 1, 'y')
	mustWrite(t, d, 2, 'y')
	mustWrite(t, d, 1, 'x')
	counts(t, d, 5, 3)
	holds(t, d.Crash(nil), "\x00x\x00\x00")
	holds(t, d.Crash([]int{0, 1}), "\x00yy\x00")
	holds(t, d.Crash([]int{0, 2, 2, 9}), "\x00x\x00\x00")
	if e := d.Write(0, filled('x')[:127]); e != api.ErrDiskLen {
		t.Error(e)
	}
	d.CutAt(5)
	if e := d.Write(9, nil); e != api.ErrDiskOff {
		t.Error(e)
	}
	if _, e := d.Read(0); e != api.ErrDiskOff {
		t.Error(e)
	}
	d.CutAt(-1)
	mustFlush(t, d)
	counts(t, d, 6, 0)
}
