package journal_test

import (
	"bytes"
	"math/rand"
	"slices"
	"testing"

	"usance/api"
	"usance/disk"
	"usance/journal"
)

// stays is which loose writes may stay: all choices of a few; of many none, all, each alone, all but each, the first ones, the last ones, and some by chance.
func stays(r *rand.Rand, loose int) [][]int {
	var out [][]int
	if loose <= 4 {
		for mask := range 1 << loose {
			out = append(out, slices.DeleteFunc(upTo(loose), func(i int) bool { return mask>>i&1 == 0 }))
		}
		return out
	}
	out = append(out, nil, upTo(loose))
	for n := range loose {
		out = append(out, []int{n}, slices.Delete(upTo(loose), n, n+1), upTo(n), upTo(loose)[n:])
		out = append(out, slices.DeleteFunc(upTo(loose), func(int) bool { return r.Intn(2) == 0 }))
	}
	return out
}

// state is what a journal tells.
type state struct {
	seq    int64
	blocks [][]byte
}

func stateOf(t *testing.T, j *journal.Journal) state {
	t.Helper()
	return state{j.Seq(), all(t, j)}
}

// with is the state behind one write more.
func (s state) with(at []int, b [][]byte) state {
	out := state{s.seq + 1, slices.Clone(s.blocks)}
	for i, n := range at {
		out.blocks[n] = b[i]
	}
	return out
}

func (s state) is(z state) bool {
	return s.seq == z.seq && same(s.blocks, z.blocks)
}

// someWrite is bytes by chance for some blocks.
func someWrite(r *rand.Rand, blocks, many int) ([]int, [][]byte) {
	at := r.Perm(blocks)[:many]
	b := make([][]byte, many)
	for i := range b {
		b[i] = make([]byte, journal.Bytes)
		r.Read(b[i])
	}
	return at, b
}

// opensAs opens a disk, which has to be as one of the states, and says which.
func opensAs(t *testing.T, d *disk.Disk, may ...state) int {
	t.Helper()
	j := mustOpen(t, d)
	got := stateOf(t, j)
	i := slices.IndexFunc(may, got.is)
	if i < 0 {
		t.Fatalf("Open: Seq %d, and blocks that no writes made", got.seq)
	}
	return i
}

// P6.6: a cut at each operation of a Write, with none, some and all of the loose writes staying; then one at each operation of Open likewise.
func TestCutWrite(t *testing.T) {
	r := rand.New(rand.NewSource(4))
	for _, many := range []int{1, 2, 3, 7, 15} {
		d, j := begun(t, 33)
		// What lay there are notes of more, of as many and of fewer blocks.
		for _, before := range []int{15, many, 1, 0} {
			if before > 0 {
				at, b := someWrite(r, 15, before)
				mustWrite(t, j, at, b)
			}
			was := stateOf(t, j)
			at, b := someWrite(r, 15, many)
			will := was.with(at, b)
			for cut := 0; ; cut++ {
				z := d.Crash(nil)
				k := mustOpen(t, z)
				z.CutAt(z.Ops() + cut)
				e := k.Write(at, b)
				if e != api.OK && e != api.ErrDiskOff {
					t.Fatalf("Write: %v", e)
				}
				may := []state{was, will}
				if e == api.OK {
					may = []state{will}
				}
				for n, stay := range stays(r, z.Loose()) {
					i := opensAs(t, z.Crash(stay), may...)
					if n < 4 || n%5 == cut%5 {
						cutOpen(t, r, z.Crash(stay), may[i])
					}
				}
				z.CutAt(-1)
				opensAs(t, z, may...)
				if e == api.OK {
					break
				}
			}
		}
	}
}

// cutOpen cuts Open at each of its operations, again and again, till it is through.
func cutOpen(t *testing.T, r *rand.Rand, d *disk.Disk, is state) {
	t.Helper()
	for cut := 0; ; cut++ {
		z := d.Crash(nil)
		z.CutAt(cut)
		j, e := journal.Open(z)
		if e == api.OK {
			if got := stateOf(t, j); !got.is(is) {
				t.Fatalf("Open, cut at %d: Seq %d, want %d", cut, got.seq, is.seq)
			}
			return
		}
		if j != nil || e != api.ErrDiskOff {
			t.Fatalf("Open, cut at %d: %v, %v", cut, j, e)
		}
		many := stays(r, z.Loose())
		y := z.Crash(many[r.Intn(len(many))])
		opensAs(t, y.Crash(nil), is)
		// Once more, ahead of the end.
		y.CutAt(r.Intn(4))
		journal.Open(y)
		many = stays(r, y.Loose())
		opensAs(t, y.Crash(many[r.Intn(len(many))]), is)
	}
}

// P6.6: a write that was not done leaves notes; what comes behind it is not mixed with them.
func TestNotesThatCountForNothing(t *testing.T) {
	d, j := begun(t, 32)
	mustWrite(t, j, []int{0, 1, 2}, some("abc"))
	for cut := range 10 {
		z := d.Crash(nil)
		z.CutAt(cut)
		mustOpen(t, z).Write([]int{3, 4, 5, 6, 7}, some("vwxyz"))
		for _, stay := range stays(rand.New(rand.NewSource(5)), z.Loose()) {
			y := z.Crash(stay)
			k := mustOpen(t, y)
			if k.Seq() != 1 {
				continue
			}
			holds(t, k, 1, "abc")
			for again := range 9 {
				x := y.Crash(nil)
				l := mustOpen(t, x)
				x.CutAt(again)
				e := l.Write([]int{1, 9}, some("pq"))
				for _, stay := range [][]int{nil, {0}, {1}, {0, 1}} {
					m := mustOpen(t, x.Crash(stay))
					if m.Seq() == 2 {
						holds(t, m, 2, "apc\x00\x00\x00\x00\x00\x00q")
					} else if e == api.OK {
						t.Errorf("a write is lost: %d, %d, %v", cut, again, stay)
					} else {
						holds(t, m, 1, "abc")
					}
				}
			}
		}
	}
}

// P6.6: a disk whose power comes again without a crash holds loose writes; what Open then answers lasts, and bears the next writes.
func TestOpenWithoutCrash(t *testing.T) {
	r := rand.New(rand.NewSource(6))
	for cut := range 12 {
		for next := range 12 {
			d, j := begun(t, 32)
			mustWrite(t, j, []int{1, 2, 3, 4}, some("abcd"))
			d.CutAt(d.Ops() + cut)
			j.Write([]int{1, 2, 3, 4}, some("wxyz"))
			d.CutAt(-1)
			k := mustOpen(t, d)
			was := stateOf(t, k)
			for _, stay := range stays(r, d.Loose()) {
				opensAs(t, d.Crash(stay), was)
			}
			at, b := []int{4, 5, 6}, some("qrs")
			may := []state{was, was.with(at, b)}
			d.CutAt(d.Ops() + next)
			if e := k.Write(at, b); e == api.OK {
				may = may[1:]
			}
			for _, stay := range stays(r, d.Loose()) {
				opensAs(t, d.Crash(stay), may...)
			}
		}
	}
}

// P6.6: Open is cut on such a disk, too.
func TestCutOpenWithoutCrash(t *testing.T) {
	r := rand.New(rand.NewSource(7))
	for cut := range 12 {
		for again := range 8 {
			d, j := begun(t, 32)
			mustWrite(t, j, []int{1, 2, 3}, some("abc"))
			was := stateOf(t, j)
			at, b := []int{3, 1, 2}, some("zxy")
			may := []state{was, was.with(at, b)}
			d.CutAt(d.Ops() + cut)
			if e := j.Write(at, b); e == api.OK {
				may = may[1:]
			}
			d.CutAt(d.Ops() + again)
			if k, e := journal.Open(d); e == api.OK {
				may = []state{stateOf(t, k)}
			}
			for _, stay := range stays(r, d.Loose()) {
				opensAs(t, d.Crash(stay), may...)
			}
			d.CutAt(-1)
			opensAs(t, d, may...)
		}
	}
}

// P6.6: long scripts by chance: writes, cuts, crashes, cuts in Open, held against the list of what was answered.
func TestScripts(t *testing.T) {
	for seed := range 60 {
		r := rand.New(rand.NewSource(int64(seed)))
		d, j := begun(t, 32+r.Intn(4))
		is := stateOf(t, j)
		for range 60 {
			may := []state{is}
			if r.Intn(3) > 0 {
				d.CutAt(d.Ops() + r.Intn(40))
			}
			for range 1 + r.Intn(3) {
				at, b := someWrite(r, j.Blocks(), r.Intn(j.Blocks()+1))
				done := may[0]
				if len(at) > 0 {
					done = done.with(at, b)
				}
				if e := j.Write(at, b); e != api.OK {
					may = append(may, done)
					break
				}
				may = []state{done}
			}
			d, j = again(t, r, d)
			is = may[opensAs(t, d, may...)]
		}
	}
}

// again crashes a disk and opens it, up to the first time that Open is not cut.
func again(t *testing.T, r *rand.Rand, d *disk.Disk) (*disk.Disk, *journal.Journal) {
	t.Helper()
	for {
		many := stays(r, d.Loose())
		if r.Intn(4) > 0 {
			d = d.Crash(many[r.Intn(len(many))])
		}
		d.CutAt(d.Ops() + r.Intn(30))
		j, e := journal.Open(d)
		if e == api.OK {
			d.CutAt(-1)
			return d, j
		}
		if e != api.ErrDiskOff {
			t.Fatalf("Open: %v", e)
		}
	}
}

// P6.3: Seq counts what a crash has let stay, and neither what was refused nor what was none.
func TestSeq(t *testing.T) {
	d, j := begun(t, 32)
	seen := map[int64]int{}
	want := int64(0)
	for n := range 40 {
		d.CutAt(d.Ops() + n%8)
		j.Write([]int{0, 0}, some("xy"))
		j.Write(nil, nil)
		b := bytes.Repeat([]byte{byte(n + 1)}, journal.Bytes)
		e := j.Write([]int{n % 15}, [][]byte{b})
		d = d.Crash([]int{n % 2})
		j = mustOpen(t, d)
		got, _ := j.Read(n % 15)
		if there := bytes.Equal(got, b); there {
			want++
		} else if e == api.OK {
			t.Fatalf("write %d is lost", n)
		}
		if j.Seq() != want {
			t.Fatalf("Seq: %d, want %d", j.Seq(), want)
		}
		seen[j.Seq()]++
	}
	if len(seen) < 10 || want == 40 {
		t.Errorf("%d writes stayed of 40", want)
	}
}
