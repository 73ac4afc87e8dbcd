package kv_test

import (
	"maps"
	"math/rand"
	"slices"
	"strings"
	"testing"

	"usance/api"
	"usance/disk"
	"usance/kv"
)

// name is which pair one is.
type name struct {
	space int
	key   string
}

// plain is what the document says of a store: its pairs.
type plain map[name]string

// weight is what all pairs weigh together.
func (p plain) weight() int {
	sum := 0
	for n, v := range p {
		sum += (12+len(n.key))*(1+len(v)/190) + len(v)
	}
	return sum
}

// with is the pairs behind some puts.
func (p plain) with(l []api.Put) plain {
	out := maps.Clone(p)
	for _, put := range l {
		n := name{put.Space, put.Key}
		if out[n] = put.Val; put.Gone {
			delete(out, n)
		}
	}
	return out
}

// of is a namespace's pairs, by rising keys.
func (p plain) of(space int) []pair {
	var out []pair
	for n, v := range p {
		if n.space == space {
			out = append(out, pair{n.key, v})
		}
	}
	slices.SortFunc(out, func(a, b pair) int { return strings.Compare(a.key, b.key) })
	return out
}

// names is which pairs there are, in one order.
func (p plain) names() []name {
	return slices.SortedFunc(maps.Keys(p), func(a, b name) int {
		if a.space != b.space {
			return a.space - b.space
		}
		return strings.Compare(a.key, b.key)
	})
}

// tells checks all that a store tells.
func (p plain) tells(t testing.TB, s *kv.Store, seq int64) {
	t.Helper()
	if s.Seq() != seq {
		t.Errorf("Seq: %d, want %d", s.Seq(), seq)
	}
	for _, space := range p.spaces() {
		alls(t, s, space, p.of(space))
	}
	for n, v := range p {
		gets(t, s, n.space, n.key, v, true, api.OK)
	}
}

// spaces is those that have pairs, and their neighbours.
func (p plain) spaces() []int {
	out := []int{-1, 0, 1, 255, 256}
	for n := range p {
		out = append(out, n.space-1, n.space, n.space+1)
	}
	slices.Sort(out)
	return slices.Compact(out)
}

// shape is of which kind a script's keys and values are, and its namespaces.
type shape struct {
	key, val func(r *rand.Rand) string
	spaces   []int
}

// text is bytes by chance, so many of so many kinds, 0 and 255 among them.
func text(r *rand.Rand, size, kinds int) string {
	b := make([]byte, size)
	for i := range b {
		b[i] = byte(r.Intn(kinds) * 255 / (kinds - 1))
	}
	return string(b)
}

func shapes() []shape {
	edges := []int{0, 1, 189, 190, 191, 379, 380, 381, 570, 760}
	return []shape{
		{
			key:    func(r *rand.Rand) string { return text(r, r.Intn(65), 256) },
			val:    func(r *rand.Rand) string { return text(r, r.Intn(300), 256) },
			spaces: []int{0, 1, 255},
		}, {
			key:    func(r *rand.Rand) string { return text(r, r.Intn(4), 3) },
			val:    func(r *rand.Rand) string { return text(r, edges[r.Intn(len(edges))], 2) },
			spaces: []int{0, 254, 255},
		}, {
			key:    func(r *rand.Rand) string { return strings.Repeat("\x00", r.Intn(65)) },
			val:    func(r *rand.Rand) string { return text(r, r.Intn(12), 256) },
			spaces: []int{7},
		}, {
			key:    func(r *rand.Rand) string { return strings.Repeat("k", 63) + text(r, 1, 256) },
			val:    func(r *rand.Rand) string { return text(r, 190*r.Intn(3), 256) },
			spaces: []int{3, 4},
		}, {
			key:    func(r *rand.Rand) string { return text(r, r.Intn(3), 4) },
			val:    func(r *rand.Rand) string { return "" },
			spaces: []int{0, 1, 2, 3, 127, 128, 253, 254, 255},
		}, {
			key:    func(r *rand.Rand) string { return text(r, r.Intn(3), 2) },
			val:    func(r *rand.Rand) string { return text(r, r.Intn(4097), 256) },
			spaces: []int{0, 99},
		},
	}
}

// script is a store in the midst of calls, and what the document says of it.
type script struct {
	t     *testing.T
	r     *rand.Rand
	shape shape
	d     *disk.Disk
	s     *kv.Store
	most  int
	now   plain
	seq   int64
	each  []api.Put // all puts that were done
	refused,
	done int
}

func scripted(t *testing.T, sectors int, seed int64, shape shape) *script {
	d, s := begun(t, sectors)
	return &script{t: t, r: rand.New(rand.NewSource(seed)), shape: shape, d: d, s: s, most: 6 * sectors, now: plain{}}
}

// put is one by chance, of a pair that is there, or of any.
func (s *script) put(grows bool) api.Put {
	p := api.Put{Space: s.shape.spaces[s.r.Intn(len(s.shape.spaces))], Key: s.shape.key(s.r)}
	if names := s.now.names(); s.r.Intn(2) == 0 && len(names) > 0 {
		n := names[s.r.Intn(len(names))]
		p.Space, p.Key = n.space, n.key
	}
	if p.Gone = s.r.Intn(4) == 0 || !grows && s.r.Intn(2) == 0; !p.Gone {
		p.Val = s.shape.val(s.r)
	}
	return p
}

func (s *script) puts(grows bool) []api.Put {
	out := make([]api.Put, 1+s.r.Intn(12))
	for i := range out {
		out[i] = s.put(grows)
	}
	return out
}

// commit does a Commit: it is refused where the pairs would weigh too much, and nowhere else.
func (s *script) commit(l []api.Put) {
	s.t.Helper()
	next := s.now.with(l)
	was := slices.Clone(l)
	ops := s.d.Ops()
	e := s.s.Commit(l)
	if !slices.Equal(l, was) {
		s.t.Fatalf("Commit has written into what it was handed")
	}
	if took := s.d.Ops() - ops; took > 4*s.d.Sectors()+100 || e != api.OK && took > 0 {
		s.t.Fatalf("Commit took %d operations: %v", took, e)
	}
	switch {
	case next.weight() > s.most:
		s.refused++
		is(s.t, "Commit of too much", e, api.ErrKvFull)
	default:
		s.done++
		s.now = next
		s.seq++
		s.each = append(s.each, l...)
		is(s.t, "Commit", e, api.OK)
	}
}

// crash lets the power go in a Commit, or ahead of one, and goes on with what is left.
func (s *script) crash(l []api.Put) {
	s.t.Helper()
	next := s.now.with(l)
	if next.weight() > s.most {
		next, l = s.now, nil
	}
	s.d.CutAt(s.d.Ops() + s.r.Intn(80))
	e := s.s.Commit(l)
	var stay []int
	for n := range s.d.Loose() {
		if s.r.Intn(2) == 0 {
			stay = append(stay, n)
		}
	}
	s.d = s.d.Crash(stay)
	s.s = mustOpen(s.t, s.d)
	stays := s.s.Seq() > s.seq
	if e == api.OK && len(l) > 0 && !stays {
		s.t.Fatalf("a Commit was lost that was answered OK")
	}
	if stays {
		s.now = next
		s.seq++
		s.each = append(s.each, l...)
	}
}

func (s *script) step(grows bool) {
	s.t.Helper()
	switch what := s.r.Intn(20); what {
	case 0:
		s.crash(s.puts(grows))
	case 1:
		s.s = mustOpen(s.t, s.d)
	default:
		s.commit(s.puts(grows))
	}
	s.now.tells(s.t, s.s, s.seq)
	p := s.put(grows)
	val, has := s.now[name{p.Space, p.Key}]
	gets(s.t, s.s, p.Space, p.Key, val, has, api.OK)
	if s.t.Failed() {
		s.t.FailNow()
	}
}

// P12.2 to P12.6: many scripts of Commits, crashes and Opens, each held against the plain pairs, on small disks, where the limit is met, and on greater ones.
func TestScripts(t *testing.T) {
	for i, shape := range shapes() {
		refused := 0
		for _, sectors := range []int{256, 261, 277, 300, 1000} {
			s := scripted(t, sectors, int64(1000*i+sectors), shape)
			for step := range 80 {
				s.step(step/20%2 == 0)
			}
			refused += s.refused
			s.anew()
			if s.done == 0 {
				t.Errorf("shape %d, %d sectors: nothing was done", i, sectors)
			}
		}
		if refused == 0 && i != 2 && i != 4 {
			t.Errorf("shape %d: the limit was never met", i)
		}
	}
}

// anew does all puts that were done once more, in other Commits, on another disk (P12.6): the same is told.
func (s *script) anew() {
	s.t.Helper()
	d, other := begun(s.t, s.d.Sectors())
	rest := s.each
	seq := int64(0)
	for len(rest) > 0 {
		n := 1 + s.r.Intn(len(rest))
		// Other Commits may be too much where those were not: then fewer are put into one, up to the end of what was one.
		if e := other.Commit(rest[:n]); e == api.ErrKvFull {
			n = s.untilFits(rest)
			is(s.t, "Commit anew", other.Commit(rest[:n]), api.OK)
		} else {
			is(s.t, "Commit anew", e, api.OK)
		}
		rest = rest[n:]
		seq++
		if s.r.Intn(4) == 0 {
			other = mustOpen(s.t, d)
		}
	}
	s.now.tells(s.t, other, seq)
}

// untilFits is how many puts there are up to where the pairs weigh no more than the limit.
func (s *script) untilFits(rest []api.Put) int {
	now := plain{}.with(s.each[:len(s.each)-len(rest)])
	for n := 1; n <= len(rest); n++ {
		if now = now.with(rest[n-1 : n]); now.weight() <= s.most {
			return n
		}
	}
	return len(rest)
}

// P12.6: whatever lay there ahead, and when it was opened, a store tells the same; and the disk's writes are the same from run to run.
func TestSameWrites(t *testing.T) {
	run := func() *disk.Disk {
		s := scripted(t, 400, 5, shapes()[0])
		for range 30 {
			s.commit(s.puts(true))
		}
		return s.d
	}
	a, b := run(), run()
	if a.Ops() != b.Ops() {
		t.Fatalf("Ops: %d, %d", a.Ops(), b.Ops())
	}
	for at := range a.Sectors() {
		x, _ := a.Read(at)
		y, _ := b.Read(at)
		if !slices.Equal(x, y) {
			t.Fatalf("sector %d differs", at)
		}
	}
}
