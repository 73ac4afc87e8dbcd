package kv_test

import (
	"iter"
	"slices"
	"strings"
	"testing"

	"usance/api"
	"usance/disk"
	"usance/kv"
)

// pair is what All tells at once.
type pair struct {
	key, val string
}

func newDisk(t testing.TB, sectors int) *disk.Disk {
	t.Helper()
	d, e := disk.New(sectors)
	if e != api.OK {
		t.Fatalf("disk.New(%d): %v", sectors, e)
	}
	return d
}

// begun is a store without pairs, and its disk.
func begun(t testing.TB, sectors int) (*disk.Disk, *kv.Store) {
	t.Helper()
	d := newDisk(t, sectors)
	if e := kv.Format(d); e != api.OK {
		t.Fatalf("Format: %v", e)
	}
	return d, mustOpen(t, d)
}

func mustOpen(t testing.TB, d *disk.Disk) *kv.Store {
	t.Helper()
	s, e := kv.Open(d)
	if e != api.OK || s == nil {
		t.Fatalf("Open: %v, %v", s, e)
	}
	return s
}

func mustCommit(t testing.TB, s *kv.Store, l ...api.Put) {
	t.Helper()
	if e := s.Commit(l); e != api.OK {
		t.Fatalf("Commit: %v", e)
	}
}

func is(t testing.TB, what string, got, want api.Errno) {
	t.Helper()
	if got != want {
		t.Errorf("%s: %v, want %v", what, got, want)
	}
}

func gets(t testing.TB, s *kv.Store, space int, key, val string, has bool, e api.Errno) {
	t.Helper()
	if v, h, f := s.Get(space, key); v != val || h != has || f != e {
		t.Errorf("Get(%d, %q): %d bytes, %v, %v, want %d, %v, %v", space, key, len(v), h, f, len(val), has, e)
	}
}

// through is all that an iterator tells.
func through(all iter.Seq2[string, string]) []pair {
	var out []pair
	for k, v := range all {
		out = append(out, pair{k, v})
	}
	return out
}

func alls(t testing.TB, s *kv.Store, space int, want []pair) {
	t.Helper()
	if got := through(s.All(space)); !slices.Equal(got, want) {
		t.Errorf("All(%d): %d pairs, want %d, or others", space, len(got), len(want))
	}
}

func bytes(n int) string { return strings.Repeat("v", n) }

// The chapter's examples.
func TestExamples(t *testing.T) {
	d := newDisk(t, 300)
	_, e := kv.Open(d)
	is(t, "Open of noughts", e, api.ErrKvCorrupt)
	is(t, "Format of 255", kv.Format(newDisk(t, 255)), api.ErrKvForm)
	is(t, "Format", kv.Format(d), api.OK)
	s := mustOpen(t, d)
	if s.Seq() != 0 {
		t.Errorf("Seq: %d", s.Seq())
	}
	mustCommit(t, s, api.Put{Space: 1, Key: "a", Val: "x"}, api.Put{Space: 2, Key: "a", Val: "y"}, api.Put{Space: 1, Key: "a", Val: "z"})
	gets(t, s, 1, "a", "z", true, api.OK)
	gets(t, s, 2, "a", "y", true, api.OK)
	gets(t, s, 3, "a", "", false, api.OK)
	if s.Seq() != 1 {
		t.Errorf("Seq: %d", s.Seq())
	}
	mustCommit(t, s, api.Put{Space: 1, Key: "a", Gone: true}, api.Put{Space: 1, Key: "b", Val: bytes(400)})
	alls(t, s, 1, []pair{{"b", bytes(400)}})
	is(t, "Commit of too much", s.Commit([]api.Put{{Space: 5, Key: "c", Val: bytes(1400)}}), api.ErrKvFull)
	is(t, "Commit of 256", s.Commit([]api.Put{{Space: 256, Key: "c", Val: "x"}}), api.ErrKvForm)
	is(t, "Commit of gone with a value", s.Commit([]api.Put{{Space: 1, Key: "c", Val: "x", Gone: true}}), api.ErrKvForm)
	is(t, "Commit of none", s.Commit(nil), api.OK)
	if s.Seq() != 2 {
		t.Errorf("Seq: %d", s.Seq())
	}
	plain{{1, "b"}: bytes(400), {2, "a"}: "y"}.tells(t, s, 2)
	plain{{1, "b"}: bytes(400), {2, "a"}: "y"}.tells(t, mustOpen(t, d), 2)
}

// P12.1: which disks may have a store.
func TestSizes(t *testing.T) {
	for _, n := range []int{1, 31, 32, 100, 254, 255} {
		d := newDisk(t, n)
		is(t, "Format", kv.Format(d), api.ErrKvForm)
		if s, e := kv.Open(d); s != nil || e != api.ErrKvCorrupt {
			t.Errorf("Open of %d sectors: %v, %v", n, s, e)
		}
		if d.Ops() != 0 {
			t.Errorf("%d sectors: %d operations", n, d.Ops())
		}
	}
	for _, n := range []int{256, 257, 258, 300, 1024, 16383, 16384} {
		d, s := begun(t, n)
		mustCommit(t, s, api.Put{Space: 255, Key: "k", Val: bytes(600)})
		plain{{255, "k"}: bytes(600)}.tells(t, mustOpen(t, d), 1)
	}
}

// P12.1: Format leaves no pairs, whatever lay there.
func TestFormatOver(t *testing.T) {
	d, s := begun(t, 300)
	mustCommit(t, s, api.Put{Key: "a", Val: bytes(500)})
	mustCommit(t, s, api.Put{Space: 9, Val: "x"})
	is(t, "Format", kv.Format(d), api.OK)
	plain{}.tells(t, mustOpen(t, d.Crash(nil)), 0)
	for at := range d.Sectors() {
		for place := range api.Sector {
			d.Poke(at, place, byte(at+7*place))
		}
	}
	_, e := kv.Open(d)
	is(t, "Open of chance", e, api.ErrKvCorrupt)
	is(t, "Format over chance", kv.Format(d), api.OK)
	s = mustOpen(t, d)
	plain{}.tells(t, s, 0)
	mustCommit(t, s, api.Put{Key: "a", Val: "b"})
	plain{{0, "a"}: "b"}.tells(t, mustOpen(t, d), 1)
}

// R4: nil objects.
func TestNil(t *testing.T) {
	is(t, "Format", kv.Format(nil), api.ErrNil)
	if s, e := kv.Open(nil); s != nil || e != api.ErrNil {
		t.Errorf("Open: %v, %v", s, e)
	}
	var s *kv.Store
	gets(t, s, 0, "", "", false, api.ErrNil)
	gets(t, s, -1, bytes(65), "", false, api.ErrNil)
	is(t, "Commit", s.Commit(nil), api.ErrNil)
	is(t, "Commit of a wrong one", s.Commit([]api.Put{{Space: -1}}), api.ErrNil)
	alls(t, s, 0, nil)
	alls(t, s, -1, nil)
	if s.Seq() != 0 {
		t.Errorf("Seq: %d", s.Seq())
	}
	// One that no call gave, and that is not nil: it must only not panic.
	made := &kv.Store{}
	made.Get(0, "")
	made.Commit([]api.Put{{Val: "x"}})
	alls(t, made, 0, nil)
}

// P12.2, P12.3, P12.4: what may not be asked for, and what just may.
func TestForms(t *testing.T) {
	d, s := begun(t, 2000)
	mustCommit(t, s, api.Put{Space: 1, Key: "a", Val: "x"})
	ops := d.Ops()
	for _, p := range []api.Put{
		{Space: -1}, {Space: 256}, {Space: 1 << 40}, {Space: -1 << 63}, {Space: 257, Gone: true},
		{Key: bytes(65)}, {Key: bytes(65), Gone: true}, {Key: bytes(5000)}, {Val: bytes(4097)}, {Val: bytes(1 << 20)},
		{Space: 1, Key: "a", Val: "x", Gone: true}, {Space: 1, Key: "a", Val: "\x00", Gone: true},
	} {
		for _, l := range [][]api.Put{{p}, {{Key: "b", Val: "y"}, p}, {p, {Key: "b", Val: "y"}}, {p, {Space: p.Space, Key: p.Key}}} {
			is(t, "Commit of a wrong one", s.Commit(l), api.ErrKvForm)
		}
	}
	for _, n := range []name{{-1, ""}, {256, ""}, {-1 << 63, "a"}, {1<<63 - 1, "a"}, {257, "a"}, {1, bytes(65)}, {1, bytes(1 << 20)}} {
		gets(t, s, n.space, n.key, "", false, api.ErrKvForm)
	}
	for _, space := range []int{-1, 256, 257, 1 << 40, -255} {
		alls(t, s, space, nil)
	}
	if d.Ops() != ops {
		t.Errorf("%d operations", d.Ops()-ops)
	}
	plain{{1, "a"}: "x"}.tells(t, s, 1)
	l := []api.Put{{Space: 0, Key: "", Val: ""}, {Space: 255, Key: bytes(64), Val: bytes(4096)}, {Space: 255, Key: strings.Repeat("\x00", 64), Val: "0"}, {Space: 255, Key: strings.Repeat("\xff", 64), Val: "1"}, {Space: 3, Key: "none", Gone: true}}
	mustCommit(t, s, l...)
	plain{{1, "a"}: "x"}.with(l).tells(t, s, 2)
	plain{{1, "a"}: "x"}.with(l).tells(t, mustOpen(t, d), 2)
}

// P12.3: of two puts of one pair the later one counts, also for what is too much; of two namespaces none.
func TestTwice(t *testing.T) {
	_, s := begun(t, 256)
	much := []api.Put{{Key: "a", Val: bytes(4096)}, {Key: "b", Val: bytes(4096)}, {Key: "a", Val: "1"}, {Key: "b", Gone: true}, {Space: 1, Key: "a", Val: "2"}}
	mustCommit(t, s, much...)
	plain{{0, "a"}: "1", {1, "a"}: "2"}.tells(t, s, 1)
	slices.Reverse(much)
	is(t, "Commit the other way round", s.Commit(much), api.ErrKvFull)
	mustCommit(t, s, api.Put{Key: "a", Gone: true}, api.Put{Key: "a", Val: "3"}, api.Put{Key: "c", Val: "4"}, api.Put{Key: "c", Gone: true})
	plain{{0, "a"}: "3", {1, "a"}: "2"}.tells(t, s, 2)
}

// P12.4: each Commit of at least one put counts, also one that comes to what was there; none else does.
func TestSeq(t *testing.T) {
	d, s := begun(t, 256)
	for i, l := range [][]api.Put{{{Key: "a", Gone: true}}, {{Key: "a", Val: "x"}}, {{Key: "a", Val: "x"}}, {{Key: "a", Val: "x"}, {Key: "a", Val: "x"}}, {{Key: "a", Gone: true}, {Key: "a", Val: "x"}}} {
		mustCommit(t, s, l...)
		mustCommit(t, s)
		is(t, "Commit of too much", s.Commit([]api.Put{{Val: bytes(4096)}}), api.ErrKvFull)
		is(t, "Commit of a wrong one", s.Commit([]api.Put{{Space: -1}}), api.ErrKvForm)
		if x := mustOpen(t, d.Crash(nil)); s.Seq() != int64(i+1) || x.Seq() != int64(i+1) {
			t.Errorf("Seq: %d, %d, want %d", s.Seq(), x.Seq(), i+1)
		}
	}
	for range 300 {
		mustCommit(t, s, api.Put{Space: 8, Val: "n"})
	}
	if x := mustOpen(t, d); x.Seq() != 305 {
		t.Errorf("Seq: %d", x.Seq())
	}
}

// R7: an iterator may be gone through again, and left early; it goes through what there is then.
func TestAllAgain(t *testing.T) {
	_, s := begun(t, 300)
	all := s.All(4)
	if got := through(all); len(got) != 0 {
		t.Errorf("All: %v", got)
	}
	mustCommit(t, s, api.Put{Space: 4, Key: "b", Val: bytes(200)}, api.Put{Space: 4, Key: "a", Val: "x"}, api.Put{Space: 4, Key: "ab", Val: ""})
	want := []pair{{"a", "x"}, {"ab", ""}, {"b", bytes(200)}}
	for range 2 {
		if got := through(all); !slices.Equal(got, want) {
			t.Errorf("All: %v", got)
		}
	}
	for left := 1; left <= 3; left++ {
		n := 0
		for k, v := range all {
			if (pair{k, v}) != want[n] {
				t.Errorf("All: %q, %q", k, v)
			}
			if n++; n == left {
				break
			}
		}
		if n != left {
			t.Errorf("All: %d, want %d", n, left)
		}
	}
	for k := range all { // what is told then is not promised, but that it ends is
		s.Commit([]api.Put{{Space: 4, Key: k, Gone: true}})
	}
	alls(t, s, 5, nil)
}

// P12.6: no namespace sees another one's pairs, whichever their keys and values are.
func TestSpaces(t *testing.T) {
	d, s := begun(t, 4000)
	want := plain{}
	for space := range 256 {
		l := []api.Put{{Space: space, Key: "", Val: string([]byte{byte(space)})}, {Space: space, Key: "\x00", Val: "0"}, {Space: space, Key: "\xff\xff", Val: "f"}}
		mustCommit(t, s, l...)
		want = want.with(l)
	}
	want.tells(t, s, 256)
	for space := 0; space < 256; space += 2 {
		mustCommit(t, s, api.Put{Space: space, Key: "", Gone: true}, api.Put{Space: space, Key: "\x00", Gone: true})
		delete(want, name{space, ""})
		delete(want, name{space, "\x00"})
	}
	want.tells(t, s, 384)
	want.tells(t, mustOpen(t, d), 384)
}
