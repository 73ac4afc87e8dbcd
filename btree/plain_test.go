package btree_test

import (
	"maps"
	"math/rand"
	"slices"
	"strings"
	"testing"

	"usance/api"
	"usance/journal"
)

// plain is what the document says of a tree: its pairs.
type plain map[string]string

// weight is what all pairs weigh together.
func (p plain) weight() int {
	sum := 0
	for k, v := range p {
		sum += 8 + len(k) + len(v)
	}
	return sum
}

// bound is how many pages a tree of these pairs may take.
func (p plain) bound() int {
	if len(p) == 0 {
		return 0
	}
	return p.weight()/200 + 2
}

// within is the pairs that Range goes through.
func (p plain) within(from, to string) []pair {
	var out []pair
	for _, k := range slices.Sorted(maps.Keys(p)) {
		if k >= from && (to == "" || k < to) {
			out = append(out, pair{k, p[k]})
		}
	}
	return out
}

// shape is of which kind a script's keys and values are.
type shape struct {
	key, val func(r *rand.Rand) string
}

// text is bytes by chance, so many of so many kinds.
func text(r *rand.Rand, size, kinds int) string {
	b := make([]byte, size)
	for i := range b {
		b[i] = byte(r.Intn(kinds)) * byte(256/kinds)
	}
	return string(b)
}

func shapes() []shape {
	long := strings.Repeat("long", 20)
	great := strings.Repeat("v", 200)
	anyVal := func(r *rand.Rand) string { return text(r, r.Intn(201), 256) }
	return []shape{
		{func(r *rand.Rand) string { return text(r, r.Intn(81), 256) }, anyVal},
		{func(r *rand.Rand) string { return text(r, r.Intn(6), 4) }, anyVal},
		{func(r *rand.Rand) string { return text(r, r.Intn(3), 256) }, func(*rand.Rand) string { return "" }},
		{func(r *rand.Rand) string { return long[:77] + text(r, 3, 8) }, func(*rand.Rand) string { return "" }},
		{func(r *rand.Rand) string { return long[:77] + text(r, 3, 8) }, func(*rand.Rand) string { return great }},
		{func(r *rand.Rand) string { return long[:r.Intn(81)] }, anyVal},
		{func(r *rand.Rand) string { return text(r, 80*r.Intn(2), 16) + text(r, 2, 16) }, func(r *rand.Rand) string { return great[:200*r.Intn(2)] }},
		{func(r *rand.Rand) string { return text(r, 2, 16) + long[:78*r.Intn(2)] }, func(r *rand.Rand) string { return great[:r.Intn(30)] }},
	}
}

// script is a tree in the midst of calls, and what the document says of it.
type script struct {
	*ground
	t         *testing.T
	r         *rand.Rand
	shape     shape
	now, kept plain
}

// P10.2 to P10.6, and what follows: many scripts of calls, with Commits, Aborts and crashes, each held against the plain pairs; in few pages and in many, with more Puts at times, and more Deletes at others.
func TestScripts(t *testing.T) {
	for i, shape := range shapes() {
		for _, pages := range []int{1, 2, 5, 9, 16, 60, 300} {
			s := &script{t: t, r: rand.New(rand.NewSource(int64(i*1000 + pages))), ground: begun(t, pages), shape: shape}
			s.now, s.kept = plain{}, plain{}
			for step := range 600 {
				s.step(step/100%2 == 0)
			}
			s.empty()
		}
	}
}

// someKey is a key that the tree has, or one by chance.
func (s *script) someKey(had bool) string {
	if had && len(s.now) > 0 {
		keys := slices.Sorted(maps.Keys(s.now))
		return keys[s.r.Intn(len(keys))]
	}
	key := s.shape.key(s.r)
	return key[:min(len(key), 80)]
}

// step is one call: what it answers, and what is told then, is as the plain pairs have it.
func (s *script) step(grows bool) {
	s.t.Helper()
	what := s.r.Intn(100)
	switch {
	case what < 3:
		mustCommit(s.t, s.p)
		s.kept = maps.Clone(s.now)
	case what < 4:
		s.abort()
	case what < 5:
		s.crash()
	case what < 40 || grows && what < 80:
		s.put(s.someKey(s.r.Intn(4) == 0), s.shape.val(s.r))
	default:
		s.del(s.someKey(s.r.Intn(4) > 0))
	}
	s.holds()
}

// put does a Put. It may only find too few pages where the promise of room lets it.
func (s *script) put(key, val string) {
	s.t.Helper()
	next := maps.Clone(s.now)
	next[key] = val
	switch e := s.tree.Put(key, val); {
	case e == api.OK:
		s.now = next
	case e == api.ErrPagerFull && max(s.now.bound(), next.bound())+6 > s.p.Pages():
		s.abort()
	default:
		s.t.Fatalf("Put(%q, %q): %v, in %d pages, %d left", key, val, e, s.p.Pages(), s.p.Left())
	}
}

// del does a Delete likewise. (All that it needs are the pages that the tree may take.)
func (s *script) del(key string) {
	s.t.Helper()
	_, want := s.now[key]
	had, e := s.tree.Delete(key)
	switch {
	case e == api.OK && had == want:
		delete(s.now, key)
	case e == api.ErrPagerFull && !had && want && s.now.bound() > s.p.Pages():
		s.abort()
	default:
		s.t.Fatalf("Delete(%q): %v, %v, want %v", key, had, e, want)
	}
}

func (s *script) abort() {
	s.p.Abort()
	s.now = maps.Clone(s.kept)
}

// crash lets the power go in a Commit, or ahead of it, and goes on with what is left.
func (s *script) crash() {
	s.t.Helper()
	if s.r.Intn(3) > 0 {
		s.d.CutAt(s.d.Ops() + s.r.Intn(60))
		if s.p.Commit() == api.OK {
			s.kept = maps.Clone(s.now)
		}
	}
	var stay []int
	for n := range s.d.Loose() {
		if s.r.Intn(2) == 0 {
			stay = append(stay, n)
		}
	}
	s.d = s.d.Crash(stay)
	j, e := journal.Open(s.d)
	if e != api.OK {
		s.t.Fatalf("journal.Open: %v", e)
	}
	s.j = j
	s.open(s.t)
	if slices.Equal(through(s.tree.Range("", "")), s.now.within("", "")) {
		s.kept = maps.Clone(s.now)
	}
	s.now = maps.Clone(s.kept)
}

// holds checks all that the tree tells, and its pages.
func (s *script) holds() {
	s.t.Helper()
	if taken := s.p.Pages() - s.p.Left(); taken > s.now.bound() {
		s.t.Fatalf("%d pages for a weight of %d, at most %d", taken, s.now.weight(), s.now.bound())
	}
	if e := s.tree.Sound(); e != api.OK {
		s.t.Fatalf("Sound: %v", e)
	}
	key := s.someKey(s.r.Intn(2) == 0)
	val, has := s.now[key]
	gets(s.t, s.tree, key, val, has, api.OK)
	if s.r.Intn(4) == 0 {
		ranges(s.t, s.tree, "", "", s.now.within("", ""))
	}
	from, to := s.someKey(s.r.Intn(2) == 0), s.someKey(s.r.Intn(2) == 0)
	ranges(s.t, s.tree, from, to, s.now.within(from, to))
	switch s.r.Intn(4) {
	case 0:
		ranges(s.t, s.tree, from, "", s.now.within(from, ""))
	case 1:
		ranges(s.t, s.tree, "", to, s.now.within("", to))
	case 2:
		ranges(s.t, s.tree, from, from+"\x00", s.now.within(from, from+"\x00"))
	}
	if s.t.Failed() {
		s.t.FailNow()
	}
}

// empty takes all pairs away: no page stays taken.
func (s *script) empty() {
	s.t.Helper()
	for len(s.now) > 0 {
		s.del(s.someKey(true))
		mustCommit(s.t, s.p)
		s.kept = maps.Clone(s.now)
		if taken := s.p.Pages() - s.p.Left(); taken > s.now.bound() {
			s.t.Fatalf("%d pages for a weight of %d", taken, s.now.weight())
		}
	}
	if s.p.Root() != -1 || s.p.Left() != s.p.Pages() || s.tree.Sound() != api.OK {
		s.t.Fatalf("Root, Left: %d, %d", s.p.Root(), s.p.Left())
	}
}

// What follows: the order in which pairs are put makes no difference to what is told.
func TestOrder(t *testing.T) {
	r := rand.New(rand.NewSource(1))
	for _, shape := range shapes() {
		want := plain{}
		for range 300 {
			key := shape.key(r)
			want[key[:min(len(key), 80)]] = shape.val(r)
		}
		keys := slices.Sorted(maps.Keys(want))
		for order := range 4 {
			g := begun(t, 600)
			switch order {
			case 1:
				slices.Reverse(keys)
			case 2, 3:
				r.Shuffle(len(keys), func(i, j int) { keys[i], keys[j] = keys[j], keys[i] })
			}
			for _, k := range keys {
				mustPut(t, g.tree, k, want[k])
			}
			ranges(t, g.tree, "", "", want.within("", ""))
			for _, k := range keys {
				gets(t, g.tree, k, want[k], true, api.OK)
			}
			is(t, "Sound", g.tree.Sound(), api.OK)
		}
	}
}
