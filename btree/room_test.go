package btree_test

import (
	"fmt"
	"maps"
	"math/rand"
	"slices"
	"strings"
	"testing"

	"usance/api"
)

// tight is a tree beside which somebody has taken pages, so that a call finds six that are free.
type tight struct {
	*ground
	t     *testing.T
	other []int
	now   plain
}

func tightly(t *testing.T, pages int) *tight {
	return &tight{ground: begun(t, pages), t: t, now: plain{}}
}

// squeeze lets six pages be free.
func (s *tight) squeeze() {
	s.t.Helper()
	for s.p.Left() > 6 {
		page, e := s.p.Alloc()
		if e != api.OK {
			s.t.Fatalf("Alloc: %v", e)
		}
		s.other = append(s.other, page)
	}
	for s.p.Left() < 6 && len(s.other) > 0 {
		last := len(s.other) - 1
		if e := s.p.Free(s.other[last]); e != api.OK {
			s.t.Fatalf("Free: %v", e)
		}
		s.other = s.other[:last]
	}
}

// fits checks how many pages the tree takes.
func (s *tight) fits() {
	s.t.Helper()
	taken := s.p.Pages() - s.p.Left() - len(s.other)
	if taken > s.now.bound() {
		s.t.Fatalf("%d pages for a weight of %d, at most %d", taken, s.now.weight(), s.now.bound())
	}
}

func (s *tight) put(key, val string) {
	s.t.Helper()
	s.squeeze()
	mustPut(s.t, s.tree, key, val)
	s.now[key] = val
	s.fits()
}

func (s *tight) del(key string) {
	s.t.Helper()
	s.squeeze()
	mustDelete(s.t, s.tree, key)
	delete(s.now, key)
	s.fits()
}

// ends checks that all is told, that the pages of others are told as such, and are left alone.
func (s *tight) ends() {
	s.t.Helper()
	ranges(s.t, s.tree, "", "", s.now.within("", ""))
	if len(s.other) > 0 {
		is(s.t, "Sound beside others", s.tree.Sound(), api.ErrTreeCorrupt)
	}
	for _, page := range s.other {
		is(s.t, "Free", s.p.Free(page), api.OK)
	}
	s.other = nil
	is(s.t, "Sound", s.tree.Sound(), api.OK)
}

// P10.6: with six pages that are free each call has enough, and the tree's pages stay few: pairs that rise, that fall, by chance, great ones and small ones, that are taken away from the front, from the back, by chance, each second one, or nearly all of neighbours.
func TestRoom(t *testing.T) {
	r := rand.New(rand.NewSource(1))
	orders := []func(l []string){
		func([]string) {},
		func(l []string) { slices.Reverse(l) },
		func(l []string) { r.Shuffle(len(l), func(i, j int) { l[i], l[j] = l[j], l[i] }) },
		func(l []string) { slices.SortStableFunc(l, func(a, b string) int { return int(a[3]&1) - int(b[3]&1) }) },
		func(l []string) { slices.SortStableFunc(l, func(a, b string) int { return int(b[3]%5) - int(a[3]%5) }) },
	}
	for _, size := range []int{4, 80} {
		for _, most := range []int{0, 12, 200} {
			for _, in := range orders[:3] {
				for _, out := range orders {
					s := tightly(t, 300)
					keys := make([]string, 250)
					for i := range keys {
						keys[i] = fmt.Sprintf("%04d", i) + strings.Repeat("k", size-4)
					}
					in(keys)
					for _, k := range keys {
						s.put(k, strings.Repeat("v", most))
					}
					slices.Sort(keys)
					out(keys)
					for _, k := range keys {
						s.del(k)
					}
					s.ends()
				}
			}
		}
	}
}

// P10.6: likewise with long and short keys by turns, of which the long ones end up as bounds between children, and values that grow and shrink.
func TestRoomMixed(t *testing.T) {
	for seed := range 6 {
		r := rand.New(rand.NewSource(int64(seed)))
		s := tightly(t, 1000)
		for round := range 3000 {
			key := fmt.Sprintf("%03x", r.Intn(1200))
			if r.Intn(1+seed) > 0 {
				key += strings.Repeat("k", 77)
			}
			_, has := s.now[key]
			switch {
			case has && (round/500%2 == 1 || r.Intn(3) == 0):
				s.del(key)
			case round/500%2 == 0 || r.Intn(3) == 0:
				s.put(key, strings.Repeat("v", []int{0, 1, 100, 199, 200}[r.Intn(5)]))
			}
		}
		s.ends()
		keys := slices.Sorted(maps.Keys(s.now))
		r.Shuffle(len(keys), func(i, j int) { keys[i], keys[j] = keys[j], keys[i] })
		for _, k := range keys {
			s.del(k)
		}
		s.ends()
	}
}

// P10.6: in the greatest pager a tree of the greatest pairs, each call of which has six pages.
func TestRoomGreat(t *testing.T) {
	s := tightly(t, 1023)
	r := rand.New(rand.NewSource(1))
	keys := make([]string, 1200)
	for i := range keys {
		keys[i] = fmt.Sprintf("%080d", i*7919%1200)
	}
	sum := 0
	for _, k := range keys {
		v := strings.Repeat("v", 200-r.Intn(3)*r.Intn(100))
		sum += 8 + len(k) + len(v)
		if sum/200+2+6 > 1023 {
			break
		}
		s.squeeze()
		mustPut(t, s.tree, k, v)
		s.now[k] = v
	}
	s.fits()
	s.ends()
	mustCommit(t, s.p)
	for _, k := range slices.Sorted(maps.Keys(s.now)) {
		s.squeeze()
		mustDelete(t, s.tree, k)
		delete(s.now, k)
	}
	s.fits()
	s.ends()
}

// P10.2, P10.3: too few pages; not even ahead of the Abort anything is changed, and behind it all is as it was committed.
func TestFull(t *testing.T) {
	for _, pages := range []int{1, 2, 3, 4, 7, 12, 30} {
		g := begun(t, pages)
		now, full := plain{}, false
		for i := 0; !full; i++ {
			key, val := fmt.Sprintf("%080d", i*37%1000), strings.Repeat("v", i*31%201)
			next := maps.Clone(now)
			next[key] = val
			was := told(g.p)
			switch e := g.tree.Put(key, val); {
			case e == api.OK:
				mustCommit(t, g.p)
				now = next
			case e == api.ErrPagerFull && next.bound()+6 > pages:
				full = true
				if told(g.p) != was {
					t.Error("a change beside an error")
				}
			default:
				t.Fatalf("Put in %d pages: %v, for a weight of %d", pages, e, next.weight())
			}
		}
		g.p.Abort()
		ranges(t, g.tree, "", "", now.within("", ""))
		is(t, "Sound", g.tree.Sound(), api.OK)
		if len(now) < 3 {
			t.Errorf("%d pairs in %d pages", len(now), pages)
		}
		for _, k := range slices.Sorted(maps.Keys(now)) {
			mustDelete(t, g.tree, k)
		}
		if g.p.Left() != pages {
			t.Errorf("Left: %d of %d", g.p.Left(), pages)
		}
	}
}
