package btree_test

import (
	"bytes"
	"fmt"
	"math/rand"
	"slices"
	"strings"
	"testing"

	"usance/api"
	"usance/btree"
	"usance/pager"
)

// grown is a tree of three levels, and its pairs.
func grown(t testing.TB) (*ground, []pair) {
	t.Helper()
	g := begun(t, 120)
	var pairs []pair
	for i := range 80 {
		pairs = append(pairs, pair{fmt.Sprintf("%080d", i), strings.Repeat("v", 100+i)})
	}
	for i := range pairs {
		p := pairs[i*37%80]
		mustPut(t, g.tree, p.key, p.val)
	}
	mustCommit(t, g.p)
	return g, pairs
}

// taken is the pages that are taken.
func taken(p *pager.Pager) []int {
	var out []int
	for page := range p.Pages() {
		if _, e := p.Read(page); e == api.OK {
			out = append(out, page)
		}
	}
	return out
}

// told is all that a pager tells.
func told(p *pager.Pager) string {
	var out bytes.Buffer
	fmt.Fprint(&out, p.Root(), p.Left())
	for page := range p.Pages() {
		b, e := p.Read(page)
		fmt.Fprint(&out, e, len(b))
		out.Write(b)
	}
	return out.String()
}

// spoilt checks that Sound tells what was done to the pages, and takes it back.
func spoilt(t *testing.T, g *ground, what string) {
	t.Helper()
	is(t, what, g.tree.Sound(), api.ErrTreeCorrupt)
	g.p.Abort()
	is(t, "behind the Abort", g.tree.Sound(), api.OK)
}

// P10.5: pages that are no tree's, and such as are not the tree's.
func TestSound(t *testing.T) {
	g, _ := grown(t)
	is(t, "Sound", g.tree.Sound(), api.OK)
	pages := taken(g.p)
	if len(pages) < 20 {
		t.Fatalf("%d pages", len(pages))
	}
	for _, page := range pages {
		if page != g.p.Root() {
			g.p.SetRoot(page)
			spoilt(t, g, "another root")
		}
		for _, b := range []byte{0, 1, 'v', 0xff} {
			g.p.Write(page, bytes.Repeat([]byte{b}, pager.Bytes))
			spoilt(t, g, "a page of one byte")
		}
		was, _ := g.p.Read(page)
		for _, at := range []int{0, 1, 2, 3, pager.Bytes - 1} {
			for _, by := range []byte{1, 2, 4, 8, 16, 32, 64, 128, 255} {
				b := slices.Clone(was)
				b[at] ^= by
				g.p.Write(page, b)
				if at < 3 || b[at] > 80 {
					spoilt(t, g, fmt.Sprint("a byte that is another one at ", at))
				}
			}
		}
		g.p.Abort()
		for _, other := range pages {
			if other != page {
				b, _ := g.p.Read(other)
				g.p.Write(page, b)
				spoilt(t, g, "a page that is there twice")
			}
		}
		if page != g.p.Root() {
			is(t, "Free", g.p.Free(page), api.OK)
			spoilt(t, g, "a page that is not taken")
		}
	}
	g.p.SetRoot(-1)
	spoilt(t, g, "pages without a root")
	g.p.Alloc()
	spoilt(t, g, "a page of nobody")
	a, _ := g.p.Read(pages[3])
	b, _ := g.p.Read(pages[4])
	g.p.Write(pages[3], b)
	g.p.Write(pages[4], a)
	spoilt(t, g, "pages one for the other")
}

// P10.5: a tree without pairs has no pages.
func TestSoundEmpty(t *testing.T) {
	g := begun(t, 5)
	is(t, "Sound", g.tree.Sound(), api.OK)
	page, _ := g.p.Alloc()
	is(t, "Sound with a page", g.tree.Sound(), api.ErrTreeCorrupt)
	g.p.SetRoot(page)
	is(t, "Sound with a root of noughts", g.tree.Sound(), api.ErrTreeCorrupt)
	gets(t, g.tree, "a", "", false, api.ErrTreeCorrupt)
	deletes(t, g.tree, "a", false, api.ErrTreeCorrupt)
	is(t, "Put", g.tree.Put("a", "x"), api.ErrTreeCorrupt)
	ranges(t, g.tree, "", "", nil)
}

// spoil lets a page have other bytes, by chance, or be free, or gives the tree another root.
func spoil(r *rand.Rand, p *pager.Pager, pages []int) {
	page := pages[r.Intn(len(pages))]
	b, e := p.Read(page)
	if e != api.OK {
		return
	}
	switch r.Intn(7) {
	case 0:
		p.Free(page)
		return
	case 1:
		p.SetRoot(page)
		return
	case 2:
		r.Read(b)
	case 3:
		b, _ = p.Read(pages[r.Intn(len(pages))])
	case 4:
		for range 1 + r.Intn(8) {
			b[r.Intn(len(b))] = byte(r.Intn(256))
		}
	default:
		b[r.Intn(8)] ^= 1 << r.Intn(8)
	}
	p.Write(page, b)
}

// tries does a call on a tree that may be none, and says what is wrong with its answer.
func tries(r *rand.Rand, g *ground, key string) string {
	val, has, e := g.tree.Get(key)
	if !has && val != "" || e != api.OK && has {
		return fmt.Sprintf("Get: %q, %v, %v", val, has, e)
	}
	count, last := 0, ""
	for k := range g.tree.Range("", "") {
		if count > 0 && k <= last {
			return fmt.Sprintf("Range: %q behind %q", k, last)
		}
		count, last = count+1, k
	}
	was := told(g.p)
	if r.Intn(2) == 0 {
		e = g.tree.Put(key, strings.Repeat("w", r.Intn(201)))
	} else {
		has, e = g.tree.Delete(key)
	}
	if e != api.OK && told(g.p) != was {
		return fmt.Sprintf("a change beside %v", e)
	}
	return ""
}

// P10.5, R1, R2: of pages that no tree has laid each call ends; keys rise nevertheless, and an error changes nothing.
func TestSpoilt(t *testing.T) {
	g, pairs := grown(t)
	pages := taken(g.p)
	const seeds = 600
	found := 0
	for seed := range seeds {
		r := rand.New(rand.NewSource(int64(seed)))
		for range 1 + r.Intn(2) {
			spoil(r, g.p, pages)
		}
		if g.tree.Sound() != api.OK {
			found++
		}
		for range 3 {
			if wrong := tries(r, g, pairs[r.Intn(len(pairs))].key[r.Intn(2):]); wrong != "" {
				t.Fatalf("seed %d: %s", seed, wrong)
			}
		}
		g.tree.Sound()
		g.p.Abort()
	}
	if found < seeds/2 {
		t.Errorf("%d of %d were told", found, seeds)
	}
	ranges(t, g.tree, "", "", pairs)
}

// P10.2, P10.4, P10.5: the journal's errors, sector by sector: what can't be read is told, what can be read is right, and Range goes as far as it can.
func TestUnread(t *testing.T) {
	g, pairs := grown(t)
	whole, cut := 0, 0
	for sector := range g.d.Sectors() {
		b, _ := g.d.Read(sector)
		g.d.Poke(sector, 60, b[60]^1)
		got := through(g.tree.Range("", ""))
		if len(got) > len(pairs) || !slices.Equal(got, pairs[:len(got)]) {
			t.Fatalf("sector %d: Range: %q", sector, got)
		}
		switch e := g.tree.Sound(); {
		case e == api.OK && len(got) == len(pairs):
			whole++
		case e == api.ErrJournalCorrupt && len(got) < len(pairs):
			cut++
			unread(t, g, pairs[len(got)])
			reads(t, g, pairs)
		default:
			t.Fatalf("sector %d: Sound: %v, %d pairs", sector, e, len(got))
		}
		g.d.Poke(sector, 60, b[60])
	}
	if cut != 8*len(taken(g.p)) {
		t.Errorf("%d sectors count, of %d pages", cut, len(taken(g.p)))
	}
	if whole == 0 {
		t.Error("all sectors count")
	}
}

// unread checks the calls for a pair whose leaf, or a node above it, can't be read: an error, and nothing is changed. (Not even an error that is named behind the pager's is told.)
func unread(t *testing.T, g *ground, p pair) {
	t.Helper()
	was := g.j.Seq()
	gets(t, g.tree, p.key, "", false, api.ErrJournalCorrupt)
	deletes(t, g.tree, p.key, false, api.ErrJournalCorrupt)
	is(t, "Put", g.tree.Put(p.key, "w"), api.ErrJournalCorrupt)
	mustCommit(t, g.p)
	if g.j.Seq() != was {
		t.Error("a change beside an error")
	}
	g.p.Alloc()
	is(t, "Sound, with a page of nobody", g.tree.Sound(), api.ErrJournalCorrupt)
	g.p.Abort()
	for _, page := range taken(g.p) {
		if page != g.p.Root() {
			g.p.Write(page, make([]byte, pager.Bytes))
			break
		}
	}
	is(t, "Sound, with a page of noughts", g.tree.Sound(), api.ErrJournalCorrupt)
	g.p.Abort()
}

// reads checks that Range through one pair meets an error where Get does, and nowhere else.
func reads(t *testing.T, g *ground, pairs []pair) {
	t.Helper()
	for _, p := range pairs {
		var want []pair
		if _, _, e := g.tree.Get(p.key); e == api.OK {
			want = append(want, p)
		}
		ranges(t, g.tree, p.key, p.key+"\x00", want)
	}
}

// The face that the chapter lists, as a later layer leans on it.
var _ interface {
	Get(key string) (string, bool, api.Errno)
	Put(key, val string) api.Errno
	Delete(key string) (bool, api.Errno)
	Sound() api.Errno
} = (*btree.Tree)(nil)
