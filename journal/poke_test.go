package journal_test

import (
	"bytes"
	"testing"

	"usance/api"
	"usance/disk"
	"usance/journal"
)

// lies is disks as journals leave them: new, written, with a write that is noted and not laid, laid in part, begun.
func lies(t *testing.T, sectors int) map[string]*disk.Disk {
	t.Helper()
	out := map[string]*disk.Disk{}
	d, j := begun(t, sectors)
	out["new"] = d.Crash(nil)
	mustWrite(t, j, []int{2, 3, 4}, some("abc"))
	out["once"] = d.Crash(nil)
	mustWrite(t, j, upTo(j.Blocks()), some(string(bytes.Repeat([]byte{'m'}, j.Blocks()))))
	mustWrite(t, j, []int{7, 3}, some("xy"))
	out["written"] = d.Crash(nil)
	d.CutAt(d.Ops() + 6)
	j.Write([]int{1, 2, 3}, some("pqr"))
	out["noted"] = d.Crash(nil)
	out["laid in part"] = d.Crash([]int{0})
	d = out["written"].Crash(nil)
	d.CutAt(2)
	mustOpen(t, d).Write([]int{5, 6, 7}, some("uvw"))
	out["begun"] = d.Crash([]int{1})
	return out
}

// tells checks a journal whose disk has another byte: it is told, or makes no difference.
func tells(t *testing.T, d *disk.Disk, was state) (told bool) {
	t.Helper()
	j, e := journal.Open(d)
	if e != api.OK {
		if j != nil || e != api.ErrJournalCorrupt && e != api.ErrJournalForm {
			t.Fatalf("Open: %v, %v", j, e)
		}
		return true
	}
	for at, want := range was.blocks {
		b, e := j.Read(at)
		if e == api.OK && !bytes.Equal(b, want) {
			t.Fatalf("Read(%d): %q, want %q", at, b, want)
		}
		if e != api.OK && (len(b) != 0 || e != api.ErrJournalCorrupt) {
			t.Fatalf("Read(%d): %q, %v", at, b, e)
		}
		told = told || e != api.OK
	}
	if !told && j.Seq() != was.seq {
		t.Fatalf("Seq: %d, want %d", j.Seq(), was.seq)
	}
	return told
}

// P6.7: each byte of each sector.
func TestPoke(t *testing.T) {
	for _, sectors := range []int{32, 33} {
		for name, d := range lies(t, sectors) {
			was := stateOf(t, mustOpen(t, d.Crash(nil)))
			for at := range sectors {
				b, _ := d.Read(at)
				told := 0
				for place, c := range b {
					for _, other := range []byte{c ^ 1<<(place%8), ^c} {
						z := d.Crash(nil)
						z.Poke(at, place, other)
						if tells(t, z, was) {
							told++
						}
					}
				}
				// What no crash leaves, wherever the journal lays something.
				if told == 0 && at < sectors/2*2 {
					t.Errorf("%s: sector %d of %d: never told", name, at, sectors)
				}
			}
		}
	}
}

// P6.7: each other byte at each place, of the first sectors.
func TestPokeAllBytes(t *testing.T) {
	d := lies(t, 32)["noted"]
	was := stateOf(t, mustOpen(t, d.Crash(nil)))
	for at := range 3 {
		b, _ := d.Read(at)
		for place, c := range b {
			for other := range 256 {
				z := d.Crash(nil)
				z.Poke(at, place, byte(other))
				if tells(t, z, was) == (byte(other) == c) {
					t.Fatalf("sector %d, byte %d as %02X", at, place, other)
				}
			}
		}
	}
}

// P6.3, P6.7: a journal that is open tells it as well; it is not off for that.
func TestPokeWhileOpen(t *testing.T) {
	d, j := begun(t, 32)
	mustWrite(t, j, []int{2, 3, 4}, some("abc"))
	was := stateOf(t, j)
	told := 0
	for at := range 32 {
		b, _ := d.Read(at)
		for place, c := range b {
			d.Poke(at, place, c+1)
			corrupt := 0
			for n, want := range was.blocks {
				b, e := j.Read(n)
				switch {
				case e == api.ErrJournalCorrupt && len(b) == 0:
					corrupt++
				case e != api.OK || !bytes.Equal(b, want):
					t.Fatalf("Read(%d): %q, %v", n, b, e)
				}
			}
			if corrupt > 1 || j.Seq() != 1 {
				t.Fatalf("sector %d, byte %d: %d blocks, Seq %d", at, place, corrupt, j.Seq())
			}
			told += corrupt
			d.Poke(at, place, c)
		}
	}
	if told != 15*api.Sector {
		t.Errorf("told of %d bytes", told)
	}
	holds(t, j, 1, "\x00\x00abc")
	mustWrite(t, j, []int{2}, some("z"))
	holds(t, mustOpen(t, d), 2, "\x00\x00zbc")
}

// P6.2: what no crash leaves is told ahead of the disk's error, and without an operation.
func TestCorruptComesFirst(t *testing.T) {
	d, j := begun(t, 32)
	d.CutAt(d.Ops() + 5)
	j.Write([]int{1, 2}, some("xy"))
	for at := range 32 {
		b, _ := d.Crash(nil).Read(at)
		z := d.Crash(nil)
		z.Poke(at, 5, b[5]+1)
		z.CutAt(0)
		if k, e := journal.Open(z); k != nil || e != api.ErrJournalCorrupt {
			t.Errorf("sector %d: %v, %v", at, k, e)
		}
		if z.Ops() != 0 {
			t.Errorf("sector %d: %d operations", at, z.Ops())
		}
	}
	z := d.Crash(nil)
	z.CutAt(0)
	if k, e := journal.Open(z); k != nil || e != api.ErrDiskOff {
		t.Errorf("without another byte: %v, %v", k, e)
	}
}

// P6.2: both marks gone, as far as can be told no journal lies there.
func TestWithoutMarks(t *testing.T) {
	d, j := begun(t, 32)
	mustWrite(t, j, []int{1}, some("x"))
	forms := 0
	for a := range 32 {
		for b := range a {
			z := d.Crash(nil)
			z.Poke(a, 3, 1)
			z.Poke(b, 3, 1)
			if _, e := journal.Open(z); e == api.ErrJournalForm {
				forms++
			} else if e != api.ErrJournalCorrupt {
				t.Errorf("sectors %d, %d: %v", a, b, e)
			}
		}
	}
	if forms != 1 {
		t.Errorf("ErrJournalForm of %d pairs of sectors", forms)
	}
}

// laid writes a sector over another one, and opens what that leaves.
func laid(t *testing.T, d *disk.Disk, to int, b []byte) (*journal.Journal, api.Errno) {
	t.Helper()
	z := d.Crash(nil)
	if e := z.Write(to, b); e != api.OK {
		t.Fatal(e)
	}
	z.Flush()
	return journal.Open(z)
}

// P6.2: sectors that are right, but lie where they do not belong, or are of long ago, are what no crash leaves. (The first two are marks, the last fifteen blocks.)
func TestSectorsElsewhere(t *testing.T) {
	lie := lies(t, 32)
	for name, d := range lie {
		for from := range 32 {
			b, _ := d.Read(from)
			for to := range 32 {
				was, _ := d.Read(to)
				if bytes.Equal(was, b) || from >= 2 && to >= 2 && (to < 17 || from < 17) {
					continue
				}
				if j, e := laid(t, d, to, b); j != nil || e != api.ErrJournalCorrupt {
					t.Errorf("%s: sector %d as %d: %v", name, to, from, e)
				}
			}
		}
		if name == "new" || name == "once" {
			continue
		}
		for to := range 4 {
			b, _ := lie["new"].Read(to)
			if j, e := laid(t, d, to, b); j != nil || e != api.ErrJournalCorrupt {
				t.Errorf("%s: sector %d as it was first: %v", name, to, e)
			}
		}
	}
}

// P6.2: so are those of a journal that has more blocks.
func TestSectorsOfAGreaterOne(t *testing.T) {
	great, j := begun(t, 100)
	mustWrite(t, j, upTo(49), some(string(bytes.Repeat([]byte{'g'}, 49))))
	d, _ := begun(t, 32)
	mark, _ := great.Read(1)
	if j, e := laid(t, d, 1, mark); j != nil || e != api.ErrJournalCorrupt {
		t.Errorf("a mark of 49 notes: %v", e)
	}
	for n := 15; n < 49; n++ {
		note, _ := great.Read(2 + n)
		if j, e := laid(t, d, 2, note); j != nil || e != api.ErrJournalCorrupt {
			t.Errorf("a note of block %d: %v", n, e)
		}
	}
}
