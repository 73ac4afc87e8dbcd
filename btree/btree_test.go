package btree_test

import (
	"iter"
	"slices"
	"strings"
	"testing"

	"usance/api"
	"usance/btree"
	"usance/disk"
	"usance/journal"
	"usance/pager"
)

// pair is what Range tells at once.
type pair struct {
	key, val string
}

// ground is a tree, and all that it stands on.
type ground struct {
	d    *disk.Disk
	j    *journal.Journal
	p    *pager.Pager
	tree *btree.Tree
}

// begun is a tree without pairs in so many pages.
func begun(t testing.TB, pages int) *ground {
	t.Helper()
	blocks := max(2+8*pages, 15)
	d, e := disk.New(2*blocks + 2)
	if e != api.OK {
		t.Fatalf("disk.New: %v", e)
	}
	if e := journal.Format(d); e != api.OK {
		t.Fatalf("journal.Format: %v", e)
	}
	j, e := journal.Open(d)
	if e != api.OK {
		t.Fatalf("journal.Open: %v", e)
	}
	if e := pager.Format(j); e != api.OK {
		t.Fatalf("pager.Format: %v", e)
	}
	g := &ground{d: d, j: j}
	g.open(t)
	if g.p.Pages() != pages {
		t.Fatalf("Pages: %d, want %d", g.p.Pages(), pages)
	}
	return g
}

// open opens the pager, and the tree, that lie on the journal.
func (g *ground) open(t testing.TB) {
	t.Helper()
	p, e := pager.Open(g.j)
	if e != api.OK {
		t.Fatalf("pager.Open: %v", e)
	}
	g.p, g.tree = p, mustOpen(t, p)
}

func mustOpen(t testing.TB, p *pager.Pager) *btree.Tree {
	t.Helper()
	tree, e := btree.Open(p)
	if e != api.OK || tree == nil {
		t.Fatalf("Open: %v, %v", tree, e)
	}
	return tree
}

func is(t testing.TB, what string, got, want api.Errno) {
	t.Helper()
	if got != want {
		t.Errorf("%s: %v, want %v", what, got, want)
	}
}

func mustPut(t testing.TB, tree *btree.Tree, key, val string) {
	t.Helper()
	if e := tree.Put(key, val); e != api.OK {
		t.Fatalf("Put(%q, %d bytes): %v", key, len(val), e)
	}
}

func mustDelete(t testing.TB, tree *btree.Tree, key string) {
	t.Helper()
	if had, e := tree.Delete(key); !had || e != api.OK {
		t.Fatalf("Delete(%q): %v, %v", key, had, e)
	}
}

func mustCommit(t testing.TB, p *pager.Pager) {
	t.Helper()
	if e := p.Commit(); e != api.OK {
		t.Fatalf("Commit: %v", e)
	}
}

// gets checks what Get answers.
func gets(t testing.TB, tree *btree.Tree, key, val string, has bool, want api.Errno) {
	t.Helper()
	if v, ok, e := tree.Get(key); v != val || ok != has || e != want {
		t.Errorf("Get(%q): %q, %v, %v, want %q, %v, %v", key, v, ok, e, val, has, want)
	}
}

// deletes checks what Delete answers.
func deletes(t testing.TB, tree *btree.Tree, key string, had bool, want api.Errno) {
	t.Helper()
	if ok, e := tree.Delete(key); ok != had || e != want {
		t.Errorf("Delete(%q): %v, %v, want %v, %v", key, ok, e, had, want)
	}
}

// through is all that an iterator hands on.
func through(l iter.Seq2[string, string]) []pair {
	var out []pair
	for k, v := range l {
		out = append(out, pair{k, v})
	}
	return out
}

// ranges checks what Range goes through.
func ranges(t testing.TB, tree *btree.Tree, from, to string, want []pair) {
	t.Helper()
	if got := through(tree.Range(from, to)); !slices.Equal(got, want) {
		t.Errorf("Range(%q, %q): %q, want %q", from, to, got, want)
	}
}

// The document's examples.
func TestExamples(t *testing.T) {
	g := begun(t, 20)
	tree := g.tree
	gets(t, tree, "a", "", false, api.OK)
	deletes(t, tree, "a", false, api.OK)
	is(t, "Put(a, x)", tree.Put("a", "x"), api.OK)
	is(t, "Put(b, y)", tree.Put("b", "y"), api.OK)
	is(t, "Put(a, z)", tree.Put("a", "z"), api.OK)
	gets(t, tree, "a", "z", true, api.OK)

	ranges(t, tree, "", "", []pair{{"a", "z"}, {"b", "y"}})
	ranges(t, tree, "a\x00", "", []pair{{"b", "y"}})
	ranges(t, tree, "a", "b", []pair{{"a", "z"}})
	ranges(t, tree, "b", "a", nil)

	is(t, "Put of 81", tree.Put(strings.Repeat("k", 81), ""), api.ErrTreeKey)
	is(t, "Put of 201", tree.Put("k", strings.Repeat("v", 201)), api.ErrTreeValue)

	deletes(t, tree, "a", true, api.OK)
	deletes(t, tree, "b", true, api.OK)
	is(t, "Sound", tree.Sound(), api.OK)
	if g.p.Root() != -1 || g.p.Left() != 20 {
		t.Errorf("Root, Left: %d, %d", g.p.Root(), g.p.Left())
	}
}

// P10.1, R4: nil pagers, nil trees, and one that no call gave.
func TestNil(t *testing.T) {
	if tree, e := btree.Open(nil); tree != nil || e != api.ErrNil {
		t.Errorf("Open(nil): %v, %v", tree, e)
	}
	for _, tree := range []*btree.Tree{nil, new(btree.Tree)} {
		gets(t, tree, "a", "", false, api.ErrNil)
		deletes(t, tree, "a", false, api.ErrNil)
		is(t, "Put", tree.Put("a", "x"), api.ErrNil)
		is(t, "Sound", tree.Sound(), api.ErrNil)
		ranges(t, tree, "", "", nil)
		ranges(t, tree, "a", "b", nil)
	}
	var tree *btree.Tree
	long := strings.Repeat("k", 81)
	gets(t, tree, long, "", false, api.ErrNil)
	deletes(t, tree, long, false, api.ErrNil)
	is(t, "Put", tree.Put(long, strings.Repeat("v", 201)), api.ErrNil)
}

// P10.1: Open reads nothing, so it finds no fault, and changes nothing.
func TestOpenReadsNothing(t *testing.T) {
	g := begun(t, 20)
	page, _ := g.p.Alloc()
	is(t, "SetRoot", g.p.SetRoot(page), api.OK)
	tree := mustOpen(t, g.p)
	is(t, "Sound", tree.Sound(), api.ErrTreeCorrupt)

	off(t, g)
	tree = mustOpen(t, g.p)
	is(t, "Sound", tree.Sound(), api.ErrDiskOff)
}

// P10.1: a tree keeps nothing of its own: what one does another one of the same pager tells.
func TestTwoTrees(t *testing.T) {
	g := begun(t, 200)
	one, two := g.tree, mustOpen(t, g.p)
	for i := range 200 {
		key := strings.Repeat(string(rune('a'+i%26)), 1+i/26)
		mustPut(t, one, key, "x")
		gets(t, two, key, "x", true, api.OK)
		mustPut(t, two, key, strings.Repeat("y", i))
		gets(t, one, key, strings.Repeat("y", i), true, api.OK)
		if i%3 == 0 {
			mustDelete(t, two, key)
			gets(t, one, key, "", false, api.OK)
		}
	}
	g.p.Abort()
	ranges(t, one, "", "", nil)
	ranges(t, two, "", "", nil)
}

// P10.2: the longest key and value, the empty ones, and those that are one byte longer.
func TestLimits(t *testing.T) {
	if btree.MaxKey != 80 || btree.MaxValue != 200 {
		t.Errorf("MaxKey, MaxValue: %d, %d", btree.MaxKey, btree.MaxValue)
	}
	g := begun(t, 20)
	key, val := strings.Repeat("\xff", 80), strings.Repeat("\x00", 200)
	mustPut(t, g.tree, key, val)
	mustPut(t, g.tree, "", "")
	mustPut(t, g.tree, "\x00", val)
	want := []pair{{"", ""}, {"\x00", val}, {key, val}}
	gets(t, g.tree, key, val, true, api.OK)
	gets(t, g.tree, "", "", true, api.OK)
	ranges(t, g.tree, "", "", want)
	gets(t, g.tree, key[1:], "", false, api.OK)

	long, much := key+"\xff", val+"\x00"
	gets(t, g.tree, long, "", false, api.ErrTreeKey)
	deletes(t, g.tree, long, false, api.ErrTreeKey)
	is(t, "Put(long)", g.tree.Put(long, val), api.ErrTreeKey)
	is(t, "Put(much)", g.tree.Put(key, much), api.ErrTreeValue)
	is(t, "Put(long, much)", g.tree.Put(long, much), api.ErrTreeKey)
	ranges(t, g.tree, "", "", want)
	ranges(t, g.tree, key, long, want[2:])
	ranges(t, g.tree, long, "", nil)
	ranges(t, g.tree, "", strings.Repeat("\x00", 1000), want[:2])

	mustDelete(t, g.tree, "")
	gets(t, g.tree, "", "", false, api.OK)
	deletes(t, g.tree, "", false, api.OK)
	ranges(t, g.tree, "", "", want[1:])
}

// P10.2: what is refused, or comes to nothing, is no change of the pager's.
func TestNoChange(t *testing.T) {
	g := begun(t, 20)
	mustPut(t, g.tree, "a", "x")
	mustCommit(t, g.p)
	was := g.j.Seq()
	g.tree.Get("a")
	g.tree.Get("b")
	g.tree.Delete("b")
	g.tree.Delete(strings.Repeat("k", 81))
	g.tree.Put(strings.Repeat("k", 81), "")
	g.tree.Put("a", strings.Repeat("v", 201))
	g.tree.Sound()
	through(g.tree.Range("", ""))
	mustCommit(t, g.p)
	if g.j.Seq() != was {
		t.Errorf("%d writes of nothing", g.j.Seq()-was)
	}
}

// off lets the power go, so that the pager is off.
func off(t testing.TB, g *ground) {
	t.Helper()
	g.p.Alloc()
	g.d.CutAt(g.d.Ops())
	if e := g.p.Commit(); e != api.ErrDiskOff {
		t.Fatalf("Commit: %v", e)
	}
}

// P10.2, P10.4, P10.5: the error of a pager that is off, whether there are pairs or not, comes behind those of keys and values.
func TestOff(t *testing.T) {
	for _, pairs := range []int{0, 1, 100} {
		g := begun(t, 100)
		for i := range pairs {
			mustPut(t, g.tree, strings.Repeat("k", i%80)+string(rune(i)), "v")
		}
		mustCommit(t, g.p)
		off(t, g)
		long := strings.Repeat("k", 81)
		gets(t, g.tree, "k", "", false, api.ErrDiskOff)
		gets(t, g.tree, long, "", false, api.ErrTreeKey)
		deletes(t, g.tree, "k", false, api.ErrDiskOff)
		deletes(t, g.tree, long, false, api.ErrTreeKey)
		is(t, "Put", g.tree.Put("k", ""), api.ErrDiskOff)
		is(t, "Put(long)", g.tree.Put(long, ""), api.ErrTreeKey)
		is(t, "Put(much)", g.tree.Put("", strings.Repeat("v", 201)), api.ErrTreeValue)
		is(t, "Sound", g.tree.Sound(), api.ErrDiskOff)
		ranges(t, g.tree, "", "", nil)
	}
}

// P10.4, R7: an iterator may be left early, gone through again, and tells what there is when it is begun.
func TestRangeAgain(t *testing.T) {
	g := begun(t, 100)
	all := g.tree.Range("", "")
	some := g.tree.Range("010", "190")
	if through(all) != nil {
		t.Error("pairs of none")
	}
	var want []pair
	for i := range 200 {
		key := string([]byte{byte('0' + i/100), byte('0' + i/10%10), byte('0' + i%10)})
		want = append(want, pair{key, strings.Repeat("v", i)})
		mustPut(t, g.tree, key, want[i].val)
	}
	for range 2 {
		for stop := range len(want) {
			var got []pair
			for k, v := range all {
				got = append(got, pair{k, v})
				if len(got) > stop {
					break
				}
			}
			if !slices.Equal(got, want[:stop+1]) {
				t.Fatalf("%d pairs: %q", stop+1, got)
			}
		}
		if got := through(some); !slices.Equal(got, want[10:190]) {
			t.Errorf("some: %q", got)
		}
	}
	// One within another.
	for k := range some {
		for l := range all {
			if l > k {
				break
			}
		}
	}
	mustDelete(t, g.tree, "100")
	if got := through(some); !slices.Equal(got, slices.Concat(want[10:100], want[101:190])) {
		t.Errorf("some: %q", got)
	}
}

// R1, R7: a body that changes the tree, so that it never comes to its end by itself, comes to an end.
func TestRangeChanged(t *testing.T) {
	g := begun(t, 200)
	for i := range 100 {
		mustPut(t, g.tree, string([]byte{byte(i)}), strings.Repeat("v", 2*i))
	}
	count := 0
	for k, v := range g.tree.Range("", "") {
		g.tree.Put(k+"+", v)
		g.tree.Delete(string([]byte{k[0] ^ 1}))
		count++
		if count > 100000 {
			t.Fatal("it goes on and on")
		}
	}
	is(t, "Sound", g.tree.Sound(), api.OK)
}
