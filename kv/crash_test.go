package kv_test

import (
	"math/rand"
	"slices"
	"testing"

	"usance/api"
	"usance/disk"
	"usance/kv"
)

// upTo is 0, 1 .. n - 1.
func upTo(n int) []int {
	out := make([]int, n)
	for i := range out {
		out[i] = i
	}
	return out
}

// stays is which loose writes may stay: none, all, one alone, all but one, the first ones, the last ones, and some by chance; of many writes not each is the one.
func stays(r *rand.Rand, loose int) [][]int {
	out := [][]int{nil, upTo(loose)}
	step := 1 + loose/12
	for n := r.Intn(step); n < loose; n += step {
		out = append(out, []int{n}, slices.Delete(upTo(loose), n, n+1), upTo(n), upTo(loose)[n:])
		out = append(out, slices.DeleteFunc(upTo(loose), func(int) bool { return r.Intn(2) == 0 }))
	}
	return out
}

// side is what a store tells ahead of something, or behind it.
type side struct {
	pairs plain
	seq   int64
}

// laid is a disk with a store of some pairs, one Commit each.
func laid(t testing.TB, sectors int, p plain) (*disk.Disk, side) {
	t.Helper()
	d, s := begun(t, sectors)
	for _, n := range p.names() {
		mustCommit(t, s, api.Put{Space: n.space, Key: n.key, Val: p[n]})
	}
	return d.Crash(nil), side{p, int64(len(p))}
}

// left checks what a crash has left: one of two sides; it says whether that is the second.
func left(t *testing.T, d *disk.Disk, was, will side, mustBe bool) bool {
	t.Helper()
	s := mustOpen(t, d)
	got := was
	if s.Seq() == will.seq {
		got = will
	}
	got.pairs.tells(t, s, got.seq)
	if mustBe && s.Seq() != will.seq {
		t.Errorf("a Commit was lost that was answered OK")
	}
	return s.Seq() == will.seq
}

// batch is a name's puts, and what is there ahead of them.
type batch struct {
	was plain
	l   []api.Put
}

func batches() map[string]batch {
	some := plain{{0, "a"}: "1", {0, "b"}: bytes(400), {3, "a"}: bytes(190), {255, ""}: ""}
	return map[string]batch{
		"first":   {plain{}, []api.Put{{Key: "a", Val: "1"}}},
		"nothing": {some, []api.Put{{Key: "none", Gone: true}}},
		"one":     {some, []api.Put{{Key: "a", Val: "2"}}},
		"several": {some, []api.Put{{Key: "b", Val: "2"}, {Key: "a", Val: bytes(300)}, {Space: 3, Key: "a", Gone: true}, {Space: 7, Key: "n", Val: "n"}}},
		"all go":  {some, []api.Put{{Key: "a", Gone: true}, {Key: "b", Gone: true}, {Space: 3, Key: "a", Gone: true}, {Space: 255, Gone: true}}},
		"great":   {some, []api.Put{{Key: "b", Gone: true}, {Space: 3, Key: "a", Gone: true}, {Key: "g", Val: bytes(1300)}}},
	}
}

// P12.3, P12.5: a power cut at each operation of a Commit, with many sets of writes that stay; the store is off then.
func TestCutCommit(t *testing.T) {
	r := rand.New(rand.NewSource(1))
	for what, b := range batches() {
		d, was := laid(t, 256, b.was)
		will := side{b.was.with(b.l), was.seq + 1}
		old, young := 0, 0
		for cut := 0; ; cut++ {
			z := d.Crash(nil)
			s := mustOpen(t, z)
			z.CutAt(z.Ops() + cut)
			e := s.Commit(b.l)
			if e != api.OK {
				is(t, what, e, api.ErrDiskOff)
				off(t, z, s, was)
			}
			for _, stay := range stays(r, z.Loose()) {
				if left(t, z.Crash(stay), was, will, e == api.OK) {
					young++
				} else {
					old++
				}
			}
			if t.Failed() {
				t.Fatalf("%s: cut at %d", what, cut)
			}
			if e == api.OK {
				break
			}
		}
		if old == 0 || young == 0 {
			t.Errorf("%s: %d as it was, %d as it will be", what, old, young)
		}
	}
}

// off checks a store whose disk has answered ErrDiskOff: it goes on with that, also if the power is there again, and whatever is wrong besides.
func off(t *testing.T, d *disk.Disk, s *kv.Store, was side) {
	t.Helper()
	for range 2 {
		gets(t, s, 0, "a", "", false, api.ErrDiskOff)
		gets(t, s, 256, "a", "", false, api.ErrDiskOff)
		gets(t, s, 0, bytes(65), "", false, api.ErrDiskOff)
		is(t, "Commit", s.Commit([]api.Put{{Key: "a"}}), api.ErrDiskOff)
		is(t, "Commit of none", s.Commit(nil), api.ErrDiskOff)
		is(t, "Commit of a wrong one", s.Commit([]api.Put{{Space: 256}}), api.ErrDiskOff)
		is(t, "Commit of too much", s.Commit([]api.Put{{Val: bytes(4096)}}), api.ErrDiskOff)
		for _, n := range was.pairs.names() {
			alls(t, s, n.space, nil)
		}
		if s.Seq() != was.seq {
			t.Errorf("Seq: %d, want %d", s.Seq(), was.seq)
		}
		d.CutAt(-1)
	}
	// The disk is as the cut left it, for the crash that comes.
	d.CutAt(d.Ops())
}

// P12.5: a power cut in a Commit, and then, time and again, one in Open.
func TestCutOpen(t *testing.T) {
	r := rand.New(rand.NewSource(2))
	for what, b := range batches() {
		d, was := laid(t, 256, b.was)
		will := side{b.was.with(b.l), was.seq + 1}
		opened := 0
		for range 300 {
			z := d.Crash(nil)
			s := mustOpen(t, z)
			z.CutAt(z.Ops() + r.Intn(100))
			e := s.Commit(b.l)
			for cuts := r.Intn(6); cuts > 0; cuts-- {
				all := stays(r, z.Loose())
				z = z.Crash(all[r.Intn(len(all))])
				z.CutAt(r.Intn(30))
				if s, f := kv.Open(z); f == api.ErrDiskOff && s == nil {
					opened++
				} else if f != api.OK {
					t.Fatalf("%s: Open: %v", what, f)
				}
			}
			left(t, z.Crash(nil), was, will, e == api.OK)
			if t.Failed() {
				t.FailNow()
			}
		}
		if opened == 0 {
			t.Errorf("%s: no cut was in Open", what)
		}
	}
}

// P12.1: a power cut in Format, and in Open, is answered as such.
func TestCutFormat(t *testing.T) {
	for cut := 0; ; cut++ {
		d := newDisk(t, 256)
		d.CutAt(cut)
		e := kv.Format(d)
		if e == api.OK {
			plain{}.tells(t, mustOpen(t, d.Crash(nil)), 0)
			break
		}
		is(t, "Format", e, api.ErrDiskOff)
		if s, e := kv.Open(d); s != nil || e != api.ErrDiskOff {
			t.Errorf("Open: %v, %v", s, e)
		}
		z := d.Crash(upTo(d.Loose()))
		is(t, "Format again", kv.Format(z), api.OK)
		plain{}.tells(t, mustOpen(t, z), 0)
	}
}

// P12.2 to P12.4: a store whose power goes, unknown to it, tells so at the next look at the disk; what is too much, or wrong, it tells ahead of that.
func TestGone(t *testing.T) {
	gone := func() *kv.Store {
		d, s := begun(t, 300)
		mustCommit(t, s, api.Put{Key: "a", Val: bytes(600)})
		d.CutAt(0)
		d.Flush()
		return s
	}
	s := gone()
	is(t, "Commit of a wrong one", s.Commit([]api.Put{{Space: 256}}), api.ErrKvForm)
	is(t, "Commit of none", s.Commit(nil), api.OK)
	is(t, "Commit of too much", s.Commit([]api.Put{{Key: "b", Val: bytes(1400)}}), api.ErrKvFull)
	gets(t, s, 256, "a", "", false, api.ErrKvForm)
	is(t, "Commit", s.Commit([]api.Put{{Key: "b", Gone: true}}), api.ErrDiskOff)
	is(t, "Commit of too much", s.Commit([]api.Put{{Key: "b", Val: bytes(1400)}}), api.ErrDiskOff)
	for _, key := range []string{"a", "none"} {
		s = gone()
		gets(t, s, 0, key, "", false, api.ErrDiskOff)
		is(t, "Commit of none", s.Commit(nil), api.ErrDiskOff)
	}
	s = gone()
	alls(t, s, 0, nil)
	is(t, "Commit of none", s.Commit(nil), api.ErrDiskOff)
	gets(t, s, 256, "", "", false, api.ErrDiskOff)
}

// P12.4: All ends early where the power goes while it is gone through.
func TestGoneInAll(t *testing.T) {
	d, s := begun(t, 3000)
	var want []pair
	for i := range 40 {
		want = append(want, pair{string([]byte{byte(i)}), bytes(10 * i)})
		mustCommit(t, s, api.Put{Space: 1, Key: want[i].key, Val: want[i].val})
	}
	var got []pair
	for k, v := range s.All(1) {
		if got = append(got, pair{k, v}); len(got) == 5 {
			d.CutAt(0)
			d.Flush()
		}
	}
	if len(got) < 5 || len(got) == 40 || !slices.Equal(got, want[:len(got)]) {
		t.Errorf("All: %d pairs", len(got))
	}
	d.CutAt(-1)
	alls(t, s, 1, nil)
	is(t, "Commit", s.Commit([]api.Put{{}}), api.ErrDiskOff)
	alls(t, mustOpen(t, d), 1, want)
}

// P12.1, P12.3: a disk that has had all of its operations.
func TestDiskFull(t *testing.T) {
	d, s := begun(t, 256)
	mustCommit(t, s, api.Put{Key: "a", Val: "x"})
	for d.Ops() < api.MaxWrites-5 {
		d.Flush()
	}
	is(t, "Commit", s.Commit([]api.Put{{Key: "a", Val: "y"}}), api.ErrDiskFull)
	gets(t, s, 0, "a", "", false, api.ErrDiskFull)
	gets(t, s, -1, "a", "", false, api.ErrDiskFull)
	alls(t, s, 0, nil)
	is(t, "Format", kv.Format(d), api.ErrDiskFull)
	if x, e := kv.Open(d); x != nil || e != api.ErrDiskFull {
		t.Errorf("Open: %v, %v", x, e)
	}
	plain{{0, "a"}: "x"}.tells(t, mustOpen(t, d.Crash(nil)), 1)
}
