package pager_test

import (
	"bytes"
	"math"
	"math/rand"
	"strconv"
	"strings"
	"testing"

	"usance/api"
	"usance/disk"
	"usance/journal"
	"usance/pager"
)

// of is a page's bytes, all the same.
func of(b byte) []byte {
	return bytes.Repeat([]byte{b}, pager.Bytes)
}

// someBytes is a page's bytes by chance: no block of it is as another one.
func someBytes(r *rand.Rand) []byte {
	b := make([]byte, pager.Bytes)
	r.Read(b)
	return b
}

func is(t *testing.T, what string, got, want api.Errno) {
	t.Helper()
	if got != want {
		t.Errorf("%s: %v, want %v", what, got, want)
	}
}

// blank is a journal of so many blocks, on which no pager lies, and its disk.
func blank(t *testing.T, blocks int) (*disk.Disk, *journal.Journal) {
	t.Helper()
	d, e := disk.New(2*blocks + 2)
	if e != api.OK {
		t.Fatalf("disk.New for %d blocks: %v", blocks, e)
	}
	if e := journal.Format(d); e != api.OK {
		t.Fatalf("journal.Format: %v", e)
	}
	j := mustJournal(t, d)
	if j.Blocks() != blocks {
		t.Fatalf("Blocks: %d, want %d", j.Blocks(), blocks)
	}
	return d, j
}

func mustJournal(t *testing.T, d *disk.Disk) *journal.Journal {
	t.Helper()
	j, e := journal.Open(d)
	if e != api.OK {
		t.Fatalf("journal.Open: %v", e)
	}
	return j
}

func mustOpen(t *testing.T, j *journal.Journal) *pager.Pager {
	t.Helper()
	p, e := pager.Open(j)
	if e != api.OK || p == nil {
		t.Fatalf("Open: %v, %v", p, e)
	}
	return p
}

// begun is a new pager on a new journal of so many blocks.
func begun(t *testing.T, blocks int) (*disk.Disk, *journal.Journal, *pager.Pager) {
	t.Helper()
	d, j := blank(t, blocks)
	if e := pager.Format(j); e != api.OK {
		t.Fatalf("Format: %v", e)
	}
	return d, j, mustOpen(t, j)
}

func mustAlloc(t *testing.T, p *pager.Pager, want int) {
	t.Helper()
	if page, e := p.Alloc(); page != want || e != api.OK {
		t.Fatalf("Alloc: %d, %v, want %d", page, e, want)
	}
}

func mustWrite(t *testing.T, p *pager.Pager, page int, b []byte) {
	t.Helper()
	if e := p.Write(page, b); e != api.OK {
		t.Fatalf("Write(%d): %v", page, e)
	}
}

func mustFree(t *testing.T, p *pager.Pager, page int) {
	t.Helper()
	if e := p.Free(page); e != api.OK {
		t.Fatalf("Free(%d): %v", page, e)
	}
}

func mustRoot(t *testing.T, p *pager.Pager, page int) {
	t.Helper()
	if e := p.SetRoot(page); e != api.OK {
		t.Fatalf("SetRoot(%d): %v", page, e)
	}
}

func mustCommit(t *testing.T, p *pager.Pager) {
	t.Helper()
	if e := p.Commit(); e != api.OK {
		t.Fatalf("Commit: %v", e)
	}
}

// holdsRoom checks how many pages there are, are free, and the root.
func holdsRoom(t *testing.T, p *pager.Pager, pages, left, root int) {
	t.Helper()
	if p.Pages() != pages || p.Left() != left || p.Root() != root {
		t.Errorf("Pages, Left, Root: %d, %d, %d, want %d, %d, %d", p.Pages(), p.Left(), p.Root(), pages, left, root)
	}
}

// reads checks a page's bytes.
func reads(t *testing.T, p *pager.Pager, page int, want []byte) {
	t.Helper()
	if b, e := p.Read(page); e != api.OK || !bytes.Equal(b, want) {
		t.Errorf("Read(%d): %q, %v, want %q", page, b, e, want)
	}
}

// refuses checks that a page can't be read.
func refuses(t *testing.T, p *pager.Pager, page int, want api.Errno) {
	t.Helper()
	if b, e := p.Read(page); e != want || len(b) != 0 {
		t.Errorf("Read(%d): %q, %v, want %v", page, b, e, want)
	}
}

// told is all that a pager tells, as one text; a page is free, or has its bytes, and all of them are one or the other (P8.7).
func told(t *testing.T, p *pager.Pager) string {
	t.Helper()
	var out strings.Builder
	out.WriteString(strconv.Itoa(p.Root()))
	free := 0
	for page := range p.Pages() {
		b, e := p.Read(page)
		switch {
		case e == api.ErrPagerNone && len(b) == 0:
			free++
			out.WriteString(" free")
		case e == api.OK && len(b) == pager.Bytes:
			out.WriteString(" " + string(b))
		default:
			t.Fatalf("Read(%d): %d bytes, %v", page, len(b), e)
		}
	}
	if free != p.Left() {
		t.Fatalf("Left: %d, but %d of %d pages are free", p.Left(), free, p.Pages())
	}
	return out.String()
}

// tells checks all that a pager tells.
func tells(t *testing.T, p *pager.Pager, want string) {
	t.Helper()
	if got := told(t, p); got != want {
		t.Errorf("the pager tells %q, want %q", got, want)
	}
}

// litter writes any bytes into all blocks, as if something else lay there.
func litter(t *testing.T, j *journal.Journal, r *rand.Rand) {
	t.Helper()
	at := make([]int, j.Blocks())
	b := make([][]byte, j.Blocks())
	for i := range at {
		at[i], b[i] = i, make([]byte, journal.Bytes)
		r.Read(b[i])
	}
	if e := j.Write(at, b); e != api.OK {
		t.Fatal(e)
	}
}

// The document's examples.
func TestExamples(t *testing.T) {
	_, j := blank(t, 29)
	if p, e := pager.Open(j); p != nil || e != api.ErrPagerCorrupt {
		t.Errorf("Open of noughts: %v, %v", p, e)
	}
	is(t, "Format", pager.Format(j), api.OK)
	p := mustOpen(t, j)
	holdsRoom(t, p, 3, 3, -1)

	mustAlloc(t, p, 0)
	mustWrite(t, p, 0, of('x'))
	mustRoot(t, p, 0)
	mustCommit(t, p)
	is(t, "Free(0)", p.Free(0), api.ErrArg)
	is(t, "Free(1)", p.Free(1), api.ErrPagerNone)

	mustAlloc(t, p, 1)
	mustAlloc(t, p, 2)
	if page, e := p.Alloc(); page != 0 || e != api.ErrPagerFull {
		t.Errorf("the fourth Alloc: %d, %v", page, e)
	}
	mustCommit(t, p)
	holdsRoom(t, p, 3, 0, 0)
	reads(t, p, 1, of(0))

	mustFree(t, p, 2)
	mustRoot(t, p, 1)
	mustFree(t, p, 0)
	holdsRoom(t, p, 3, 2, 1)
	p.Abort()
	holdsRoom(t, p, 3, 0, 0)
	mustCommit(t, p)
	p = mustOpen(t, j)
	holdsRoom(t, p, 3, 0, 0)
	reads(t, p, 0, of('x'))
}

// P8.1, P8.2: how many pages a number of blocks makes, from the fewest ones on; each can be used, the last one to its last byte.
func TestSizes(t *testing.T) {
	sizes := map[int]int{15: 1, 16: 1, 17: 1, 18: 2, 25: 2, 26: 3, 29: 3, 33: 3, 34: 4, 65: 7, 66: 8, 73: 8, 74: 9, 1001: 124, 1002: 125, 8185: 1022, 8186: 1023, 8191: 1023}
	for blocks, pages := range sizes {
		d, j, p := begun(t, blocks)
		holdsRoom(t, p, pages, pages, -1)
		r := rand.New(rand.NewSource(int64(blocks)))
		var wrote [][]byte
		for page := range pages {
			mustAlloc(t, p, page)
			wrote = append(wrote, someBytes(r))
			mustWrite(t, p, page, wrote[page])
		}
		if _, e := p.Alloc(); e != api.ErrPagerFull {
			t.Errorf("%d blocks: Alloc behind the last page: %v", blocks, e)
		}
		mustRoot(t, p, pages-1)
		was := j.Seq()
		mustCommit(t, p)
		if j.Seq() != was+1 {
			t.Errorf("%d blocks: all pages at once are %d writes", blocks, j.Seq()-was)
		}
		p = mustOpen(t, mustJournal(t, d.Crash(nil)))
		holdsRoom(t, p, pages, 0, pages-1)
		for page := range pages {
			reads(t, p, page, wrote[page])
		}
		refuses(t, p, pages, api.ErrPagerNone)
	}
}

// P8.1, P8.3, P8.4, P8.5
func TestNil(t *testing.T) {
	is(t, "Format(nil)", pager.Format(nil), api.ErrNil)
	if p, e := pager.Open(nil); p != nil || e != api.ErrNil {
		t.Errorf("Open(nil): %v, %v", p, e)
	}
	var p *pager.Pager
	holdsRoom(t, p, 0, 0, -1)
	if page, e := p.Alloc(); page != 0 || e != api.ErrNil {
		t.Errorf("Alloc: %d, %v", page, e)
	}
	for _, page := range []int{-1, 0, 1} {
		is(t, "Free", p.Free(page), api.ErrNil)
		refuses(t, p, page, api.ErrNil)
		is(t, "Write", p.Write(page, of('x')), api.ErrNil)
		is(t, "Write of none", p.Write(page, nil), api.ErrNil)
		is(t, "SetRoot", p.SetRoot(page), api.ErrNil)
	}
	is(t, "Commit", p.Commit(), api.ErrNil)
	p.Abort()
}

// R1: objects that no call gave end and do not panic either.
func TestZeroObjects(t *testing.T) {
	j := new(journal.Journal)
	if e := pager.Format(j); e == api.OK {
		t.Error("Format of a journal without blocks: OK")
	}
	if p, e := pager.Open(j); p != nil || e == api.OK {
		t.Errorf("Open of a journal without blocks: %v, %v", p, e)
	}
	p := new(pager.Pager)
	p.Alloc()
	p.Free(0)
	p.Read(0)
	p.Write(0, of('x'))
	p.SetRoot(-1)
	p.Commit()
	p.Abort()
}

// P8.1: Format makes an empty pager, whatever lay there: by one write of the journal.
func TestFormatOverWhateverLies(t *testing.T) {
	r := rand.New(rand.NewSource(1))
	d, j := blank(t, 35)
	for n := range 12 {
		switch n % 3 {
		case 0:
			litter(t, j, r)
			if p, e := pager.Open(j); p != nil || e != api.ErrPagerCorrupt {
				t.Fatalf("Open of any bytes: %v, %v", p, e)
			}
		case 1: // a pager that is full, with a root
			p := mustOpen(t, j)
			for page := range p.Pages() {
				mustAlloc(t, p, page)
				mustWrite(t, p, page, someBytes(r))
			}
			mustRoot(t, p, n%4)
			mustCommit(t, p)
		}
		was := j.Seq()
		is(t, "Format", pager.Format(j), api.OK)
		if j.Seq() != was+1 {
			t.Errorf("Format: %d writes", j.Seq()-was)
		}
		p := mustOpen(t, mustJournal(t, d.Crash(nil)))
		holdsRoom(t, p, 4, 4, -1)
		for page := range 4 {
			refuses(t, p, page, api.ErrPagerNone)
			mustAlloc(t, p, page)
			reads(t, p, page, of(0))
		}
		mustCommit(t, p)
		for page := range 4 {
			reads(t, p, page, of(0))
		}
	}
}

// P8.1: what Open answers is without a change, and Open is no write, or one.
func TestOpenIsWithoutChange(t *testing.T) {
	_, j, p := begun(t, 29)
	mustAlloc(t, p, 0)
	mustCommit(t, p)
	mustAlloc(t, p, 1)
	mustRoot(t, p, 1)
	was := j.Seq()
	q := mustOpen(t, j)
	if n := j.Seq() - was; n > 1 {
		t.Errorf("Open: %d writes", n)
	}
	holdsRoom(t, q, 3, 2, -1)
	was = j.Seq()
	mustCommit(t, q)
	q.Abort()
	mustCommit(t, q)
	if j.Seq() != was {
		t.Errorf("Commit without a change: %d writes", j.Seq()-was)
	}
	holdsRoom(t, q, 3, 2, -1)
}

// P8.1: with one bit of a block another one no pager lies there, or one whose root is a page that is taken; with one of a page's the same one lies there.
func TestOpenOfNearlyAPager(t *testing.T) {
	_, j, p := begun(t, 29)
	mustAlloc(t, p, 0)
	mustAlloc(t, p, 1)
	mustRoot(t, p, 1)
	mustWrite(t, p, 0, of('x'))
	mustCommit(t, p)
	all, lies := told(t, p), 0
	for at := range j.Blocks() {
		b, _ := j.Read(at)
		for bit := range 8 * len(b) {
			b[bit/8] ^= 1 << (bit % 8)
			j.Write([]int{at}, [][]byte{b})
			b[bit/8] ^= 1 << (bit % 8)
			q, e := pager.Open(j)
			if e == api.ErrPagerCorrupt && q == nil && at < 2 {
				continue
			}
			if e != api.OK {
				t.Fatalf("block %d, bit %d: %v, %v", at, bit, q, e)
			}
			if at < 2 {
				lies++
			} else if q.Root() != 1 || q.Left() != 1 {
				t.Fatalf("block %d, bit %d: Root %d, Left %d", at, bit, q.Root(), q.Left())
			}
			told(t, q)
			if root := q.Root(); root != -1 && q.Free(root) != api.ErrArg {
				t.Fatalf("block %d, bit %d: the root %d is not taken", at, bit, root)
			}
		}
		j.Write([]int{at}, [][]byte{b})
	}
	// Page 0 free, page 2 taken, the root 0, 1 and none: no more than these may be told by one bit.
	if lies > 4 {
		t.Errorf("a pager lies there with %d bits that are other ones", lies)
	}
	tells(t, mustOpen(t, j), all)
}

// P8.1: the blocks of a pager of another size are none on this journal; so are single blocks of it.
func TestOpenOfPartsOfAPager(t *testing.T) {
	_, great, _ := begun(t, 42)
	_, small, _ := begun(t, 26)
	for at := range 26 {
		b, _ := great.Read(at)
		small.Write([]int{at}, [][]byte{b})
	}
	if p, e := pager.Open(small); p != nil || e != api.ErrPagerCorrupt {
		t.Errorf("Open of a greater one's blocks: %v, %v", p, e)
	}
	lies := 0
	for at := range 42 {
		b, _ := great.Read(at)
		great.Write([]int{at}, [][]byte{make([]byte, journal.Bytes)})
		if _, e := pager.Open(great); e == api.OK {
			lies++
		} else {
			is(t, "Open without a block", e, api.ErrPagerCorrupt)
		}
		great.Write([]int{at}, [][]byte{b})
		_, alone := blank(t, 42)
		alone.Write([]int{at}, [][]byte{b})
		if p, e := pager.Open(alone); p != nil || e != api.ErrPagerCorrupt {
			t.Errorf("Open of block %d alone: %v, %v", at, p, e)
		}
	}
	if lies != 40 {
		t.Errorf("%d of 42 blocks make no difference to an empty pager", lies)
	}
}

// P8.1: the journal's error comes ahead of ErrPagerCorrupt; behind it there is no pager.
func TestOpenWithJournalError(t *testing.T) {
	told := map[int]int{}
	for _, lies := range []bool{true, false} {
		d, j := blank(t, 15)
		want := api.ErrPagerCorrupt
		if lies {
			pager.Format(j)
			want = api.OK
		}
		for at := range d.Sectors() {
			b, _ := d.Read(at)
			d.Poke(at, 7, b[7]+1)
			p, e := pager.Open(j)
			if e == api.ErrJournalCorrupt && p == nil {
				told[at]++
			} else {
				is(t, "Open", e, want)
			}
			d.Poke(at, 7, b[7])
		}
	}
	if len(told) == 0 {
		t.Error("a journal's error is told nowhere")
	}
	for at, n := range told {
		if n != 2 {
			t.Errorf("sector %d: the journal's error is told only where a pager lies, or only where none does", at)
		}
	}
}

// P8.1: a journal that is off.
func TestFormatAndOpenWithoutPower(t *testing.T) {
	d, j, _ := begun(t, 15)
	d.CutAt(0)
	is(t, "Format", pager.Format(j), api.ErrDiskOff)
	d.CutAt(-1)
	is(t, "Format of a journal that is off", pager.Format(j), api.ErrDiskOff)
	if p, e := pager.Open(j); p != nil || e != api.ErrDiskOff {
		t.Errorf("Open of a journal that is off: %v, %v", p, e)
	}
	holdsRoom(t, mustOpen(t, mustJournal(t, d)), 1, 1, -1)
}

// P8.2, P8.3: the least free page is given, whatever was given back, ahead of a Commit and behind it.
func TestAllocTakesTheLeast(t *testing.T) {
	for _, commits := range []bool{true, false} {
		_, j, p := begun(t, 50)
		step := func() {
			t.Helper()
			if commits {
				mustCommit(t, p)
				p = mustOpen(t, j)
			}
		}
		for page := range 6 {
			mustAlloc(t, p, page)
			holdsRoom(t, p, 6, 5-page, -1)
			step()
		}
		for n, page := range []int{4, 1, 3} {
			mustFree(t, p, page)
			holdsRoom(t, p, 6, n+1, -1)
			step()
		}
		mustAlloc(t, p, 1)
		mustAlloc(t, p, 3)
		step()
		mustFree(t, p, 0)
		mustAlloc(t, p, 0)
		mustAlloc(t, p, 4)
		step()
		if page, e := p.Alloc(); page != 0 || e != api.ErrPagerFull {
			t.Errorf("Alloc: %d, %v", page, e)
		}
		mustFree(t, p, 5)
		mustAlloc(t, p, 5)
	}
}

// P8.3: a page's bytes are noughts when it is given, also one that was written, committed, given back.
func TestFreedAndAllocatedAnew(t *testing.T) {
	d, j, p := begun(t, 29)
	mustAlloc(t, p, 0)
	mustAlloc(t, p, 1)
	mustWrite(t, p, 0, of('x'))
	mustWrite(t, p, 1, of('y'))
	mustFree(t, p, 0)
	refuses(t, p, 0, api.ErrPagerNone)
	mustAlloc(t, p, 0)
	reads(t, p, 0, of(0))
	mustCommit(t, p)
	reads(t, p, 0, of(0))
	reads(t, p, 1, of('y'))
	// Given back and given anew in one change.
	mustFree(t, p, 1)
	mustAlloc(t, p, 1)
	reads(t, p, 1, of(0))
	p.Abort()
	reads(t, p, 1, of('y'))
	mustFree(t, p, 1)
	mustAlloc(t, p, 1)
	mustCommit(t, p)
	reads(t, p, 1, of(0))
	reads(t, mustOpen(t, j), 1, of(0))
	// Given back in one, given anew in another.
	mustWrite(t, p, 1, of('z'))
	mustCommit(t, p)
	mustFree(t, p, 1)
	mustCommit(t, p)
	refuses(t, p, 1, api.ErrPagerNone)
	p = mustOpen(t, mustJournal(t, d.Crash(nil)))
	refuses(t, p, 1, api.ErrPagerNone)
	mustAlloc(t, p, 1)
	reads(t, p, 1, of(0))
	mustCommit(t, p)
	reads(t, p, 1, of(0))
}

// strange is numbers of no pages.
func strange(pages int) []int {
	return []int{-1, -2, pages, pages + 1, 8 * pages, 1023, 1 << 16, 1 << 32, math.MinInt, math.MaxInt}
}

// P8.3: a page that is not taken, or out of the pages there are; what is refused is no change (R2).
func TestPagesThatAreNone(t *testing.T) {
	_, j, p := begun(t, 29)
	mustAlloc(t, p, 0)
	mustAlloc(t, p, 1)
	mustAlloc(t, p, 2)
	mustFree(t, p, 1)
	mustRoot(t, p, 0)
	mustCommit(t, p)
	was, all := j.Seq(), told(t, p)
	for _, page := range append(strange(3), 1) {
		is(t, "Free", p.Free(page), api.ErrPagerNone)
		refuses(t, p, page, api.ErrPagerNone)
		is(t, "Write", p.Write(page, of('x')), api.ErrPagerNone)
		is(t, "Write of none", p.Write(page, nil), api.ErrPagerNone)
		if page != -1 {
			is(t, "SetRoot", p.SetRoot(page), api.ErrPagerNone)
		}
	}
	is(t, "Free of the root", p.Free(0), api.ErrArg)
	is(t, "Write of none", p.Write(0, nil), api.ErrArg)
	tells(t, p, all)
	mustCommit(t, p)
	if j.Seq() != was {
		t.Error("what was refused is a change")
	}
	mustAlloc(t, p, 1)
	mustCommit(t, p)
	was = j.Seq()
	if page, e := p.Alloc(); page != 0 || e != api.ErrPagerFull {
		t.Errorf("Alloc: %d, %v", page, e)
	}
	mustCommit(t, p)
	if j.Seq() != was {
		t.Error("an Alloc that was refused is a change")
	}
	holdsRoom(t, p, 3, 0, 0)
}

// P8.3: a page that this change takes, or gives back, is taken, or none, at once.
func TestPagesWithinAChange(t *testing.T) {
	_, _, p := begun(t, 29)
	is(t, "Write of a free page", p.Write(0, of('x')), api.ErrPagerNone)
	mustAlloc(t, p, 0)
	mustWrite(t, p, 0, of('x'))
	reads(t, p, 0, of('x'))
	mustRoot(t, p, 0)
	is(t, "Free of the root", p.Free(0), api.ErrArg)
	mustRoot(t, p, -1)
	mustFree(t, p, 0)
	is(t, "Free twice", p.Free(0), api.ErrPagerNone)
	is(t, "SetRoot of what was given back", p.SetRoot(0), api.ErrPagerNone)
	is(t, "Write of what was given back", p.Write(0, of('y')), api.ErrPagerNone)
	mustCommit(t, p)
	holdsRoom(t, p, 3, 3, -1)
}

// P8.3: 896 bytes, no more and no fewer; of what is too long or too short nothing is laid.
func TestLengths(t *testing.T) {
	_, j, p := begun(t, 15)
	mustAlloc(t, p, 0)
	mustWrite(t, p, 0, of('x'))
	mustCommit(t, p)
	was := j.Seq()
	for _, n := range []int{0, 1, 112, 895, 897, 1792} {
		is(t, "Write", p.Write(0, bytes.Repeat([]byte{'y'}, n)), api.ErrArg)
		reads(t, p, 0, of('x'))
	}
	is(t, "Write of nil", p.Write(0, nil), api.ErrArg)
	mustCommit(t, p)
	if j.Seq() != was {
		t.Error("bytes that were refused are a change")
	}
	mustWrite(t, p, 0, of('z'))
	reads(t, p, 0, of('z'))
	mustCommit(t, p)
	reads(t, mustOpen(t, j), 0, of('z'))
}

// P8.2, P8.3: the root, and none.
func TestRoot(t *testing.T) {
	_, j, p := begun(t, 29)
	mustRoot(t, p, -1)
	mustAlloc(t, p, 0)
	mustAlloc(t, p, 1)
	for _, root := range []int{0, 1, -1, -1, 1, 1, 0} {
		mustRoot(t, p, root)
		holdsRoom(t, p, 3, 1, root)
		mustCommit(t, p)
		p = mustOpen(t, j)
		holdsRoom(t, p, 3, 1, root)
	}
	is(t, "Free of the root", p.Free(0), api.ErrArg)
	mustRoot(t, p, 1)
	mustFree(t, p, 0)
	mustCommit(t, p)
	holdsRoom(t, mustOpen(t, j), 3, 2, 1)
	mustRoot(t, p, -1)
	mustFree(t, p, 1)
	mustCommit(t, p)
	holdsRoom(t, mustOpen(t, j), 3, 3, -1)
}

// P8.4: a change is what was done, even if it comes to what was there: then Commit is one write; without one it is none.
func TestCommitsAreOneWrite(t *testing.T) {
	_, j, p := begun(t, 29)
	mustAlloc(t, p, 0)
	mustWrite(t, p, 0, of('x'))
	mustRoot(t, p, 0)
	mustCommit(t, p)
	all := told(t, p)
	changes := map[string]func(){
		"the same bytes":        func() { mustWrite(t, p, 0, of('x')) },
		"other bytes, and back": func() { mustWrite(t, p, 0, of('y')); mustWrite(t, p, 0, of('x')) },
		"the same root":         func() { mustRoot(t, p, 0) },
		"another root, and back": func() {
			mustRoot(t, p, -1)
			mustRoot(t, p, 0)
		},
		"a page that is given back at once": func() { mustAlloc(t, p, 1); mustFree(t, p, 1) },
		"a page that is written and given back": func() {
			mustAlloc(t, p, 1)
			mustWrite(t, p, 1, of('y'))
			mustFree(t, p, 1)
		},
	}
	for what, do := range changes {
		was := j.Seq()
		mustCommit(t, p)
		if j.Seq() != was {
			t.Errorf("without a change: %d writes", j.Seq()-was)
		}
		do()
		mustCommit(t, p)
		if j.Seq() != was+1 {
			t.Errorf("%s: %d writes", what, j.Seq()-was)
		}
		tells(t, p, all)
		tells(t, mustOpen(t, j), all)
		do()
		p.Abort()
		mustCommit(t, p)
		if j.Seq() != was+1 {
			t.Errorf("%s, aborted: %d writes", what, j.Seq()-was-1)
		}
		tells(t, p, all)
	}
}

// P8.4: nothing of a change is on the disk ahead of its Commit.
func TestNothingAheadOfCommit(t *testing.T) {
	d, j, p := begun(t, 29)
	mustAlloc(t, p, 0)
	mustCommit(t, p)
	was, ops := j.Seq(), d.Ops()
	mustAlloc(t, p, 1)
	mustWrite(t, p, 0, of('x'))
	mustWrite(t, p, 1, of('y'))
	mustRoot(t, p, 1)
	mustFree(t, p, 0)
	reads(t, p, 1, of('y'))
	p.Abort()
	mustWrite(t, p, 0, of('z'))
	if j.Seq() != was || d.Ops() != ops {
		t.Errorf("%d writes, %d operations", j.Seq()-was, d.Ops()-ops)
	}
	tells(t, mustOpen(t, j), "-1 "+string(of(0))+" free free")
	mustCommit(t, p)
	tells(t, mustOpen(t, j), "-1 "+string(of('z'))+" free free")
}

// P8.4: Abort, behind each call that changes something, and behind all of them.
func TestAbort(t *testing.T) {
	_, j, p := begun(t, 34)
	for page := range 3 {
		mustAlloc(t, p, page)
		mustWrite(t, p, page, of('a'+byte(page)))
	}
	mustRoot(t, p, 1)
	mustCommit(t, p)
	all := told(t, p)
	calls := []func(){
		func() { mustAlloc(t, p, 3) },
		func() { mustWrite(t, p, 0, of('x')) },
		func() { mustFree(t, p, 2) },
		func() { mustRoot(t, p, 0) },
		func() { mustFree(t, p, 1) },
		func() { mustRoot(t, p, -1) },
		func() { mustAlloc(t, p, 1) },
		func() { mustWrite(t, p, 1, of('y')) },
	}
	for n := range 1 << 4 {
		for i, call := range calls[:4] {
			if n>>i&1 == 1 {
				call()
			}
		}
		p.Abort()
		tells(t, p, all)
	}
	for n := range calls {
		for _, call := range calls[:n+1] {
			call()
		}
		if told(t, p) == all {
			t.Errorf("%d calls change nothing", n+1)
		}
		p.Abort()
		tells(t, p, all)
		p.Abort()
		tells(t, p, all)
	}
	was := j.Seq()
	mustCommit(t, p)
	if j.Seq() != was {
		t.Error("behind an Abort there is a change")
	}
	tells(t, mustOpen(t, j), all)
	// What comes behind an Abort has nothing of what was ahead of it.
	mustWrite(t, p, 0, of('x'))
	p.Abort()
	mustWrite(t, p, 2, of('z'))
	mustCommit(t, p)
	for _, q := range []*pager.Pager{p, mustOpen(t, j)} {
		reads(t, q, 0, of('a'))
		reads(t, q, 2, of('z'))
		holdsRoom(t, q, 4, 1, 1)
	}
}

// P8.4: an Abort leads back behind the last Commit, not behind Open.
func TestAbortBehindCommits(t *testing.T) {
	_, _, p := begun(t, 29)
	for n := range 3 {
		mustAlloc(t, p, n)
		mustWrite(t, p, n, of('a'+byte(n)))
		mustRoot(t, p, n)
		mustCommit(t, p)
		mustWrite(t, p, 0, of('z'))
		mustRoot(t, p, -1)
		p.Abort()
		holdsRoom(t, p, 3, 2-n, n)
		for page := range n + 1 {
			reads(t, p, page, of('a'+byte(page)))
		}
	}
}

// R3: what is handed in is neither kept nor written to, what is answered is new memory.
func TestMemory(t *testing.T) {
	_, j, p := begun(t, 15)
	mustAlloc(t, p, 0)
	room := bytes.Repeat([]byte{'x'}, 1000)
	mustWrite(t, p, 0, room[:pager.Bytes])
	clear(room[:pager.Bytes])
	if !bytes.Equal(room[pager.Bytes:], bytes.Repeat([]byte{'x'}, 1000-pager.Bytes)) {
		t.Error("spare room was written to")
	}
	for range 2 {
		for range 3 {
			b, _ := p.Read(0)
			if !bytes.Equal(b, of('x')) {
				t.Fatalf("Read: %q", b)
			}
			clear(b)
			b = b[:cap(b)]
			for i := range b {
				b[i] = 'z'
			}
		}
		mustCommit(t, p)
	}
	reads(t, mustOpen(t, j), 0, of('x'))
}

// R4: two pagers on two journals have nothing to do with each other.
func TestTwoPagers(t *testing.T) {
	_, _, p := begun(t, 29)
	_, j, q := begun(t, 29)
	mustAlloc(t, p, 0)
	mustWrite(t, p, 0, of('p'))
	mustAlloc(t, q, 0)
	mustAlloc(t, q, 1)
	mustWrite(t, q, 1, of('q'))
	mustRoot(t, q, 1)
	mustCommit(t, q)
	p.Abort()
	holdsRoom(t, p, 3, 3, -1)
	holdsRoom(t, q, 3, 1, 1)
	tells(t, mustOpen(t, j), "1 "+string(of(0))+" "+string(of('q'))+" free")
}
