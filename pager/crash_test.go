package pager_test

import (
	"math/rand"
	"slices"
	"testing"

	"usance/api"
	"usance/disk"
	"usance/journal"
	"usance/pager"
)

// upTo is 0, 1 .. n - 1.
func upTo(n int) []int {
	out := make([]int, n)
	for i := range out {
		out[i] = i
	}
	return out
}

// stays is which loose writes may stay: each set of up to ten; of more none, all, each alone, all but each, the first ones, the last ones, and some by chance.
func stays(r *rand.Rand, loose int) [][]int {
	var out [][]int
	if loose <= 10 {
		for mask := range 1 << loose {
			out = append(out, slices.DeleteFunc(upTo(loose), func(i int) bool { return mask>>i&1 == 0 }))
		}
		return out
	}
	out = append(out, nil, upTo(loose))
	for n := range loose {
		out = append(out, []int{n}, slices.Delete(upTo(loose), n, n+1), upTo(n), upTo(loose)[n:])
		out = append(out, slices.DeleteFunc(upTo(loose), func(int) bool { return r.Intn(2) == 0 }))
	}
	return out
}

// noPager is what a journal tells on which none lies.
const noPager = "no pager"

// lies is what the pager on a disk tells.
func lies(t *testing.T, d *disk.Disk) string {
	t.Helper()
	p, e := pager.Open(mustJournal(t, d))
	if e == api.ErrPagerCorrupt && p == nil {
		return noPager
	}
	if e != api.OK {
		t.Fatalf("Open: %v", e)
	}
	return told(t, p)
}

// cutAll does something at each cut of its operations, and checks that what each crash leaves is one of two, and behind OK the second one; it says how often it was which.
func cutAll(t *testing.T, r *rand.Rand, d *disk.Disk, was, will string, do func(*disk.Disk) api.Errno) (old, young int) {
	t.Helper()
	for cut := 0; ; cut++ {
		z := d.Crash(nil)
		z.CutAt(cut)
		e := do(z)
		if e != api.OK && e != api.ErrDiskOff {
			t.Fatalf("cut at %d: %v", cut, e)
		}
		for _, stay := range stays(r, z.Loose()) {
			switch got := lies(t, z.Crash(stay)); {
			case got == will:
				young++
			case got == was && e != api.OK:
				old++
			default:
				t.Fatalf("cut at %d (%v), %v stay: %q, want %q or %q", cut, e, stay, got, was, will)
			}
		}
		if e == api.OK {
			return old, young
		}
	}
}

// begin is a disk with a pager on which each kind of page is: taken and written, the root, free; and what it tells.
func begin(t *testing.T, blocks int) (*disk.Disk, string) {
	t.Helper()
	d, _, p := begun(t, blocks)
	for page := range (p.Pages() + 1) / 2 {
		mustAlloc(t, p, page)
		mustWrite(t, p, page, of('a'+byte(page)))
	}
	mustRoot(t, p, 0)
	mustCommit(t, p)
	return d.Crash(nil), told(t, p)
}

// edits is changes of such a pager.
func edits(t *testing.T) map[string]func(p *pager.Pager) {
	return map[string]func(p *pager.Pager){
		"write":    func(p *pager.Pager) { mustWrite(t, p, 0, of('x')) },
		"root":     func(p *pager.Pager) { mustRoot(t, p, -1) },
		"free":     func(p *pager.Pager) { mustRoot(t, p, -1); mustFree(t, p, 0) },
		"anew":     func(p *pager.Pager) { mustRoot(t, p, -1); mustFree(t, p, 0); mustAlloc(t, p, 0) },
		"no other": func(p *pager.Pager) { mustRoot(t, p, -1); mustRoot(t, p, 0) },
		"whole": func(p *pager.Pager) {
			for p.Left() > 0 {
				page, _ := p.Alloc()
				mustRoot(t, p, page)
			}
			for page := range p.Pages() {
				mustWrite(t, p, page, of('A'+byte(page)))
			}
		},
	}
}

// P8.4, P8.6: a power cut at each operation of Commit, with each set of writes that stay.
func TestCutCommit(t *testing.T) {
	r := rand.New(rand.NewSource(1))
	for _, blocks := range []int{15, 27} {
		d, was := begin(t, blocks)
		for name, edit := range edits(t) {
			z := d.Crash(nil)
			p := mustOpen(t, mustJournal(t, z))
			edit(p)
			will := told(t, p)
			mustCommit(t, p)
			if got := lies(t, z.Crash(nil)); got != will {
				t.Fatalf("%s: %q, want %q", name, got, will)
			}
			old, young := cutAll(t, r, d, was, will, func(z *disk.Disk) api.Errno {
				p := mustOpen(t, mustJournal(t, z))
				edit(p)
				return p.Commit()
			})
			if was != will && (old == 0 || young == 0) {
				t.Errorf("%s: crashes leave %d old, %d new pagers", name, old, young)
			}
		}
	}
}

// P8.6: a change that was not committed leaves nothing, whether it was aborted or not.
func TestCutWithoutCommit(t *testing.T) {
	for _, blocks := range []int{15, 27} {
		d, was := begin(t, blocks)
		for name, edit := range edits(t) {
			z := d.Crash(nil)
			p := mustOpen(t, mustJournal(t, z))
			edit(p)
			for range 2 {
				if z.Loose() != 0 || lies(t, z.Crash(nil)) != was {
					t.Errorf("%s: something stays of what was not committed", name)
				}
				p.Abort()
			}
		}
	}
}

// P8.1, P8.6: a power cut at each operation of Format, with each set of writes that stay: what lay there, or an empty pager.
func TestCutFormat(t *testing.T) {
	r := rand.New(rand.NewSource(2))
	held, was := begin(t, 15)
	bare, _ := blank(t, 15)
	littered, j := blank(t, 15)
	litter(t, j, r)
	grounds := []struct {
		d   *disk.Disk
		was string
	}{{held, was}, {bare.Crash(nil), noPager}, {littered.Crash(nil), noPager}}
	for _, g := range grounds {
		old, young := cutAll(t, r, g.d, g.was, "-1 free", func(z *disk.Disk) api.Errno {
			return pager.Format(mustJournal(t, z))
		})
		if old == 0 || young == 0 {
			t.Errorf("crashes leave %d old, %d new pagers", old, young)
		}
	}
}

// P8.6: a power cut at each operation of Open, journal's and pager's, behind one in Commit, with each set of writes that stay.
func TestCutOpen(t *testing.T) {
	r := rand.New(rand.NewSource(3))
	d, was := begin(t, 15)
	for name, edit := range edits(t) {
		p := mustOpen(t, mustJournal(t, d.Crash(nil)))
		edit(p)
		will := told(t, p)
		for cut := range 26 {
			z := d.Crash(nil)
			z.CutAt(cut)
			p := mustOpen(t, mustJournal(t, z))
			edit(p)
			p.Commit()
			many := stays(r, z.Loose())
			for range 3 {
				y := z.Crash(many[r.Intn(len(many))])
				is := lies(t, y.Crash(nil))
				if is != was && is != will {
					t.Fatalf("%s, cut at %d: %q", name, cut, is)
				}
				cutAll(t, r, y, is, is, func(x *disk.Disk) api.Errno {
					j, e := journal.Open(x)
					if e != api.OK {
						return e
					}
					_, e = pager.Open(j)
					return e
				})
			}
		}
	}
}

// isOff checks that each call answers an error, whatever its arguments are, and that nothing is done; what has no error tells what it did.
func isOff(t *testing.T, p *pager.Pager, want api.Errno) {
	t.Helper()
	pages, left, root := p.Pages(), p.Left(), p.Root()
	for range 2 {
		if page, e := p.Alloc(); page != 0 || e != want {
			t.Errorf("Alloc: %d, %v, want %v", page, e, want)
		}
		for _, page := range append(strange(pages), 0, 1, 2) {
			is(t, "Free", p.Free(page), want)
			refuses(t, p, page, want)
			is(t, "Write", p.Write(page, of('x')), want)
			is(t, "Write of none", p.Write(page, nil), want)
			is(t, "SetRoot", p.SetRoot(page), want)
		}
		is(t, "Commit", p.Commit(), want)
		p.Abort()
		holdsRoom(t, p, pages, left, root)
	}
}

// P8.3, P8.4: a pager that is off, by a Commit; also when the power is there again.
func TestOffByCommit(t *testing.T) {
	for cut := range 24 {
		d, _, p := begun(t, 29)
		mustAlloc(t, p, 0)
		mustWrite(t, p, 0, of('x'))
		mustCommit(t, p)
		mustAlloc(t, p, 1)
		mustRoot(t, p, 1)
		d.CutAt(d.Ops() + cut)
		is(t, "Commit", p.Commit(), api.ErrDiskOff)
		// An Abort of a pager that is off does nothing: what it tells is as the change has it.
		p.Abort()
		holdsRoom(t, p, 3, 1, 1)
		isOff(t, p, api.ErrDiskOff)
		d.CutAt(-1)
		ops := d.Ops()
		isOff(t, p, api.ErrDiskOff)
		if d.Ops() != ops {
			t.Errorf("a pager that is off did %d operations", d.Ops()-ops)
		}
		q := mustOpen(t, mustJournal(t, d))
		reads(t, q, 0, of('x'))
	}
}

// P8.3, P8.4: a pager that is off, by a Read, without a change and with one.
func TestOffByRead(t *testing.T) {
	for _, changes := range []bool{false, true} {
		d, _, p := begun(t, 29)
		mustAlloc(t, p, 0)
		mustWrite(t, p, 0, of('x'))
		mustCommit(t, p)
		if changes {
			mustAlloc(t, p, 1)
		}
		d.CutAt(0)
		d.Flush()
		// No call has asked the journal yet.
		if changes {
			reads(t, p, 1, of(0))
		}
		refuses(t, p, 1<<20, api.ErrPagerNone)
		refuses(t, p, 0, api.ErrDiskOff)
		isOff(t, p, api.ErrDiskOff)
		d.CutAt(-1)
		isOff(t, p, api.ErrDiskOff)
	}
}

// P8.3, P8.4: so it is by a disk that has had all its operations.
func TestOffByFull(t *testing.T) {
	d, _, p := begun(t, 15)
	mustAlloc(t, p, 0)
	for d.Ops() < api.MaxWrites-5 {
		if e := d.Flush(); e != api.OK {
			t.Fatal(e)
		}
	}
	is(t, "Commit", p.Commit(), api.ErrDiskFull)
	isOff(t, p, api.ErrDiskFull)
	tells(t, mustOpen(t, mustJournal(t, d.Crash(nil))), "-1 free")
}

// P8.3: an error that is not the disk's is told, and the pager goes on.
func TestCorruptIsNotOff(t *testing.T) {
	d, j, p := begun(t, 18)
	mustAlloc(t, p, 0)
	mustAlloc(t, p, 1)
	mustWrite(t, p, 0, of('x'))
	mustWrite(t, p, 1, of('y'))
	mustCommit(t, p)
	corrupt := [2]int{}
	for at := range d.Sectors() {
		b, _ := d.Read(at)
		d.Poke(at, 50, b[50]+1)
		for page, want := range []byte{'x', 'y'} {
			got, e := p.Read(page)
			switch {
			case e == api.ErrJournalCorrupt && len(got) == 0:
				corrupt[page]++
			case e != api.OK || string(got) != string(of(want)):
				t.Errorf("Read(%d): %q, %v", page, got, e)
			}
		}
		d.Poke(at, 50, b[50])
	}
	if corrupt != [2]int{8, 8} {
		t.Errorf("ErrJournalCorrupt of %v sectors", corrupt)
	}
	mustWrite(t, p, 0, of('z'))
	mustCommit(t, p)
	tells(t, mustOpen(t, j), "-1 "+string(of('z'))+" "+string(of('y')))
}

// R4 (what a disk is told hangs on the calls alone): the same calls leave the same disk, loose writes too.
func TestSameCallsSameDisk(t *testing.T) {
	var first []string
	for n := range 20 {
		d, _, p := begun(t, 90)
		for page := range p.Pages() {
			mustAlloc(t, p, page)
			mustWrite(t, p, page, of('a'+byte(page)))
		}
		d.CutAt(d.Ops() + 60)
		p.Commit()
		z := d.Crash(upTo(d.Loose() / 2))
		var now []string
		for at := range z.Sectors() {
			b, _ := z.Read(at)
			now = append(now, string(b))
		}
		if n == 0 {
			first = now
		} else if !slices.Equal(first, now) {
			t.Fatal("the same calls, and another disk")
		}
	}
}
