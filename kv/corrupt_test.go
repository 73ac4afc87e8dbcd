package kv_test

import (
	"slices"
	"testing"

	"usance/api"
	"usance/btree"
	"usance/disk"
	"usance/journal"
	"usance/kv"
	"usance/pager"
)

// below is the tree of a disk on which a pager lies.
func below(t *testing.T, d *disk.Disk) (*pager.Pager, *btree.Tree) {
	t.Helper()
	j, e := journal.Open(d)
	if e != api.OK {
		t.Fatalf("journal.Open: %v", e)
	}
	p, e := pager.Open(j)
	if e != api.OK {
		t.Fatalf("pager.Open: %v", e)
	}
	tree, _ := btree.Open(p)
	return p, tree
}

// turned is a disk on which somebody has changed the tree's pairs.
func turned(t *testing.T, d *disk.Disk, how func(p *pager.Pager, tree *btree.Tree)) *disk.Disk {
	t.Helper()
	z := d.Crash(nil)
	p, tree := below(t, z)
	how(p, tree)
	is(t, "pager.Commit", p.Commit(), api.OK)
	return z
}

func noStore(t *testing.T, what string, d *disk.Disk) {
	t.Helper()
	if s, e := kv.Open(d); s != nil || e != api.ErrKvCorrupt {
		t.Errorf("Open of %s: %v, %v", what, s, e)
	}
}

// P12.1: what lies there is something else: noughts, a journal, a pager, another tree.
func TestNoStore(t *testing.T) {
	d := newDisk(t, 300)
	noStore(t, "noughts", d)
	is(t, "journal.Format", journal.Format(d), api.OK)
	noStore(t, "a journal", d)
	j, _ := journal.Open(d)
	is(t, "pager.Format", pager.Format(j), api.OK)
	noStore(t, "a pager", d)
	noStore(t, "another tree", turned(t, d, func(_ *pager.Pager, tree *btree.Tree) { tree.Put("a", "x") }))
	noStore(t, "pages of nobody", turned(t, d, func(p *pager.Pager, _ *btree.Tree) { p.Alloc() }))
	noStore(t, "a page that is no tree's", turned(t, d, func(p *pager.Pager, _ *btree.Tree) {
		page, _ := p.Alloc()
		p.SetRoot(page)
	}))
	is(t, "Format", kv.Format(d), api.OK)
	plain{}.tells(t, mustOpen(t, d), 0)
}

// P12.1: a tree that has one pair less than a store's, one more, or another one.
func TestNoStoresPairs(t *testing.T) {
	for _, val := range []int{190, 600, 760} {
		d, _ := laid(t, 300, plain{{1, "k"}: bytes(val)})
		_, tree := below(t, d.Crash(nil))
		had := through(tree.Range("", ""))
		for _, h := range had {
			noStore(t, "one piece less", turned(t, d, func(_ *pager.Pager, tree *btree.Tree) { tree.Delete(h.key) }))
			noStore(t, "a piece of another pair", turned(t, d, func(_ *pager.Pager, tree *btree.Tree) {
				tree.Delete(h.key)
				tree.Put(h.key+"x", h.val)
			}))
			noStore(t, "a long piece", turned(t, d, func(_ *pager.Pager, tree *btree.Tree) { tree.Put(h.key, bytes(191)) }))
			if len(h.val) == 190 {
				noStore(t, "a short piece", turned(t, d, func(_ *pager.Pager, tree *btree.Tree) { tree.Put(h.key, h.val[:189]) }))
			} else if h.key == "" {
				noStore(t, "no mark", turned(t, d, func(_ *pager.Pager, tree *btree.Tree) { tree.Put("", "") }))
				noStore(t, "a long mark", turned(t, d, func(_ *pager.Pager, tree *btree.Tree) { tree.Put("", h.val+"\x00") }))
				noStore(t, "a short mark", turned(t, d, func(_ *pager.Pager, tree *btree.Tree) { tree.Put("", h.val[:len(h.val)-1]) }))
				noStore(t, "a mark below 0", turned(t, d, func(_ *pager.Pager, tree *btree.Tree) { tree.Put("", h.val[:len(h.val)-1]+"\x01") }))
			} else {
				noStore(t, "a full last piece", turned(t, d, func(_ *pager.Pager, tree *btree.Tree) { tree.Put(h.key, bytes(190)) }))
			}
		}
		for _, key := range []string{"\x01", "\x00\x01", "\x01\x01", "\x01\x01x", "\x01\xffk", "\x02\x00" + bytes(65), bytes(80)} {
			if !slices.ContainsFunc(had, func(h pair) bool { return h.key == key }) {
				noStore(t, "one more", turned(t, d, func(_ *pager.Pager, tree *btree.Tree) { tree.Put(key, "x") }))
			}
		}
		noStore(t, "pages of nobody", turned(t, d, func(p *pager.Pager, _ *btree.Tree) { p.Alloc() }))
	}
}

// P12.1: pairs that weigh more than the limit, or are longer than one may be, no store has.
func TestNoStoresWeight(t *testing.T) {
	d, _ := laid(t, 300, plain{})
	// Eight pieces of one pair, and one of another one: they weigh 108, and their values' bytes.
	for last, want := range map[int]api.Errno{0: api.OK, 173: api.OK, 174: api.ErrKvCorrupt, 189: api.ErrKvCorrupt} {
		_, e := kv.Open(turned(t, d, func(_ *pager.Pager, tree *btree.Tree) {
			for i := range 7 {
				tree.Put(string([]byte{4, byte(i)}), bytes(190))
			}
			tree.Put("\x04\x07", bytes(189))
			tree.Put("\x05\x00", bytes(last))
		}))
		is(t, "Open of much", e, want)
	}
	great, _ := laid(t, 3000, plain{})
	for full, want := range map[int]api.Errno{21: api.OK, 22: api.ErrKvCorrupt, 256: api.ErrKvCorrupt} {
		_, e := kv.Open(turned(t, great, func(_ *pager.Pager, tree *btree.Tree) {
			for i := range full {
				tree.Put(string([]byte{4, byte(i)}), bytes(190))
			}
			if full < 256 {
				tree.Put(string([]byte{4, byte(full)}), "")
			}
		}))
		is(t, "Open of a long value", e, want)
	}
}

// some is a store's pairs, in several pages.
func some() plain {
	return plain{{0, "a"}: "1", {0, "b"}: bytes(400), {3, "a"}: bytes(190), {3, "b"}: bytes(100), {255, ""}: "", {255, "c"}: bytes(200)}
}

// P12.1: another byte, in each sector, is told, or makes no difference.
func TestPoke(t *testing.T) {
	for _, sectors := range []int{256, 257} {
		d, was := laid(t, sectors, some())
		for at := range sectors {
			told := 0
			for place := at % 3; place < api.Sector; place += 3 {
				z := d.Crash(nil)
				b, _ := z.Read(at)
				z.Poke(at, place, b[place]^byte(1<<(place%8)))
				s, e := kv.Open(z)
				if e == api.OK {
					was.pairs.tells(t, s, was.seq)
					continue
				}
				told++
				if s != nil || e != api.ErrKvCorrupt {
					t.Fatalf("Open: %v, %v", s, e)
				}
			}
			if told == 0 && at < 256 {
				t.Errorf("sector %d: never told", at)
			}
			if t.Failed() {
				t.FailNow()
			}
		}
	}
}

// beginning: are these the first ones of those?
func beginning(these, those []pair) bool {
	return len(these) <= len(those) && slices.Equal(these, those[:len(these)])
}

// P12.2 to P12.4: another byte behind Open: Get and Commit tell, All ends early; nothing is changed by a Commit that tells; ErrKvFull comes first.
func TestPokeOpened(t *testing.T) {
	d, was := laid(t, 256, some())
	got, ended, refused := 0, 0, 0
	for at := range d.Sectors() {
		z := d.Crash(nil)
		s := mustOpen(t, z)
		b, _ := z.Read(at)
		z.Poke(at, 5, b[5]^0x10)
		for n, v := range was.pairs {
			if val, has, e := s.Get(n.space, n.key); e == api.ErrKvCorrupt && val == "" && !has {
				got++
			} else if e != api.OK || !has || val != v {
				t.Errorf("Get: %q, %v, %v", val, has, e)
			}
		}
		for _, space := range []int{0, 3, 255} {
			all := through(s.All(space))
			if want := was.pairs.of(space); !beginning(all, want) {
				t.Errorf("All(%d): %v", space, all)
			} else if len(all) < len(want) {
				ended++
			}
		}
		is(t, "Commit of too much", s.Commit([]api.Put{{Key: "a", Val: bytes(1400)}}), api.ErrKvFull)
		ops := z.Ops()
		l := []api.Put{{Space: 3, Key: "a", Val: bytes(300)}, {Key: "a", Gone: true}, {Space: 9, Key: "n", Val: "n"}}
		switch e := s.Commit(l); e {
		case api.OK:
			if s.Seq() != was.seq+1 {
				t.Errorf("Seq: %d", s.Seq())
			}
		case api.ErrKvCorrupt:
			refused++
			if s.Seq() != was.seq || z.Ops() != ops {
				t.Errorf("Seq: %d, %d operations", s.Seq(), z.Ops()-ops)
			}
			// With the byte as it was all is as it was, and goes on.
			z.Poke(at, 5, b[5])
			was.pairs.tells(t, s, was.seq)
			mustCommit(t, s, l...)
			was.pairs.with(l).tells(t, s, was.seq+1)
			was.pairs.with(l).tells(t, mustOpen(t, z), was.seq+1)
		default:
			t.Errorf("Commit: %v", e)
		}
		if t.Failed() {
			t.Fatalf("sector %d", at)
		}
	}
	if got == 0 || ended == 0 || refused == 0 {
		t.Errorf("told %d times by Get, %d by All, %d by Commit", got, ended, refused)
	}
}

// R1: on a disk that somebody else has laid anew each call ends.
func TestLaidAnew(t *testing.T) {
	for _, full := range []int{0, 1, 5, 21, 22, 256} {
		d, s := begun(t, 3000)
		mustCommit(t, s, api.Put{Space: 4, Key: "", Val: bytes(400)})
		p, tree := below(t, d)
		for i := range 256 {
			tree.Delete(string([]byte{4, byte(i)}))
		}
		for i := range full {
			tree.Put(string([]byte{4, byte(i)}), bytes(190))
		}
		is(t, "pager.Commit", p.Commit(), api.OK)
		// What the old store tells of it is not promised.
		s.Get(4, "")
		through(s.All(4))
		s.Commit([]api.Put{{Space: 4, Key: "", Val: "x"}})
		s.Commit([]api.Put{{Space: 4, Key: "", Gone: true}})
		if e := kv.Format(d); e != api.OK {
			t.Errorf("Format: %v", e)
		}
		s.Get(4, "")
		through(s.All(4))
		s.Commit([]api.Put{{Space: 4, Key: "y", Val: "x"}})
	}
}
