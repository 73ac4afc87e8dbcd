package pager_test

import (
	"bytes"
	"maps"
	"math/rand"
	"slices"
	"strconv"
	"testing"

	"usance/api"
	"usance/disk"
	"usance/journal"
	"usance/pager"
)

// plain is what the document says of a pager: the taken pages' bytes, and the root.
type plain struct {
	pages int
	taken map[int][]byte
	root  int
}

func (p plain) clone() plain {
	p.taken = maps.Clone(p.taken)
	return p
}

// told is what a pager tells that is so, as the helper told writes it.
func (p plain) told() string {
	out := strconv.Itoa(p.root)
	for page := range p.pages {
		if b, ok := p.taken[page]; ok {
			out += " " + string(b)
		} else {
			out += " free"
		}
	}
	return out
}

func (p *plain) alloc() (int, api.Errno) {
	for page := range p.pages {
		if _, ok := p.taken[page]; !ok {
			p.taken[page] = of(0)
			return page, api.OK
		}
	}
	return 0, api.ErrPagerFull
}

func (p *plain) free(page int) api.Errno {
	if _, ok := p.taken[page]; !ok {
		return api.ErrPagerNone
	}
	if page == p.root {
		return api.ErrArg
	}
	delete(p.taken, page)
	return api.OK
}

func (p *plain) write(page int, b []byte) api.Errno {
	if _, ok := p.taken[page]; !ok {
		return api.ErrPagerNone
	}
	if len(b) != 896 {
		return api.ErrArg
	}
	p.taken[page] = slices.Clone(b)
	return api.OK
}

func (p *plain) setRoot(page int) api.Errno {
	if _, ok := p.taken[page]; !ok && page != -1 {
		return api.ErrPagerNone
	}
	p.root = page
	return api.OK
}

// script is a pager in the midst of calls, and what the document says of it.
type script struct {
	t         *testing.T
	r         *rand.Rand
	d         *disk.Disk
	j         *journal.Journal
	p         *pager.Pager
	now, kept plain
	changed   bool
}

// P8.2 to P8.7: many scripts of calls, right and wrong, with cuts and crashes, each held against the plain pager.
func TestScripts(t *testing.T) {
	for seed := range 120 {
		r := rand.New(rand.NewSource(int64(seed)))
		s := &script{t: t, r: r}
		s.d, s.j, s.p = begun(t, 15+r.Intn(40))
		s.kept = plain{pages: s.p.Pages(), taken: map[int][]byte{}, root: -1}
		s.now = s.kept.clone()
		for range 150 {
			s.step()
		}
	}
}

// step is one call: what it answers, and all that is told then, is as the plain pager has it.
func (s *script) step() {
	s.t.Helper()
	page := s.r.Intn(s.now.pages+3) - 2
	was := s.j.Seq()
	writes := int64(0)
	switch s.r.Intn(16) {
	case 0, 1, 2, 3:
		got, e := s.p.Alloc()
		want, f := s.now.alloc()
		if got != want {
			s.t.Fatalf("Alloc: %d, want %d", got, want)
		}
		s.same("Alloc", e, f)
	case 4, 5, 6:
		s.same("Free", s.p.Free(page), s.now.free(page))
	case 7, 8, 9:
		b := s.bytes()
		s.same("Write", s.p.Write(page, b), s.now.write(page, b))
		clear(b)
	case 10, 11:
		s.same("SetRoot", s.p.SetRoot(page), s.now.setRoot(page))
	case 12:
		s.p.Abort()
		s.now, s.changed = s.kept.clone(), false
	case 13:
		s.crash()
		return
	default:
		if s.changed {
			writes = 1
		}
		if e := s.p.Commit(); e != api.OK {
			s.t.Fatalf("Commit: %v", e)
		}
		s.kept, s.changed = s.now.clone(), false
	}
	if s.j.Seq() != was+writes {
		s.t.Fatalf("%d writes, want %d", s.j.Seq()-was, writes)
	}
	if got := told(s.t, s.p); got != s.now.told() {
		s.t.Fatalf("the pager tells %q, want %q", got, s.now.told())
	}
}

// same checks what a call answers; one that answers OK is a change.
func (s *script) same(what string, got, want api.Errno) {
	s.t.Helper()
	if got != want {
		s.t.Fatalf("%s: %v, want %v", what, got, want)
	}
	s.changed = s.changed || want == api.OK
}

// bytes is a page's bytes, sometimes one more or less.
func (s *script) bytes() []byte {
	b := bytes.Repeat([]byte{'a' + byte(s.r.Intn(26))}, 896)
	switch s.r.Intn(8) {
	case 0:
		return b[:895]
	case 1:
		return append(b, 'z')
	case 2:
		s.r.Read(b)
	}
	return b
}

// crash cuts a Commit, or none, lets some of the writes stay, and opens what is left, perhaps behind further cuts.
func (s *script) crash() {
	s.t.Helper()
	may := []string{s.kept.told()}
	if s.r.Intn(3) > 0 {
		s.d.CutAt(s.d.Ops() + s.r.Intn(40))
		if e := s.p.Commit(); e == api.OK {
			may = []string{s.now.told()}
		} else {
			may = append(may, s.now.told())
			isOff(s.t, s.p, e)
		}
	}
	for {
		many := stays(s.r, s.d.Loose())
		s.d = s.d.Crash(many[s.r.Intn(len(many))])
		s.d.CutAt(s.r.Intn(30))
		j, e := journal.Open(s.d)
		if e == api.OK {
			s.j = j
			break
		}
	}
	s.d.CutAt(-1)
	s.p = mustOpen(s.t, s.j)
	got := told(s.t, s.p)
	if !slices.Contains(may, got) {
		s.t.Fatalf("behind a crash: %q, want one of %q", got, may)
	}
	if got == s.now.told() {
		s.kept = s.now.clone()
	}
	s.now, s.changed = s.kept.clone(), false
}
