package agenda

import (
	"math/rand"
	"testing"
)

// sound tells a node's height, reckoned anew, and finds fault with what is not level or not in order.
func sound(t *testing.T, n *node[byDay]) int {
	t.Helper()
	if n == nil {
		return 0
	}
	a, b := sound(t, n.ahead), sound(t, n.behind)
	if high := 1 + max(a, b); n.height != high || a-b > 1 || b-a > 1 {
		t.Fatal("not level:", a, b, n.height)
	}
	if n.ahead != nil && n.ahead.key.compare(n.key) >= 0 || n.behind != nil && n.behind.key.compare(n.key) <= 0 {
		t.Fatal("not in order:", n.key)
	}
	return n.height
}

// P19.1, P19.2 (R1): the tree stays level, whatever comes and goes, so that no call goes deep; and what it was stays as it was.
func TestLevel(t *testing.T) {
	for seed := range int64(40) {
		r := rand.New(rand.NewSource(seed))
		var o order[byDay]
		most := 1 + r.Intn(200)
		for range 400 {
			before, held := o.root, 0
			for range o.from(byDay{}) {
				held++
			}
			k := byDay{Day: r.Intn(most), Id: 1 + r.Intn(3)}
			if r.Intn(2) == 0 {
				o.put(k)
			} else {
				o.drop(k)
			}
			sound(t, o.root)
			sound(t, before)
			n := 0
			before.walk(byDay{}, func(byDay) bool { n++; return true })
			if n != held {
				t.Fatal("what was is changed:", n, held)
			}
		}
	}
}
