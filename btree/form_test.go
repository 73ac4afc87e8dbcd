package btree

import (
	"fmt"
	"math/rand"
	"slices"
	"strings"
	"testing"

	"usance/api"
	"usance/disk"
	"usance/journal"
	"usance/pager"
)

// someRows is rows of a level by chance, by rising keys, that take at least so much.
func someRows(r *rand.Rand, level, size int) []row {
	var out []row
	most := []int{0, 1, 30, MaxValue}[r.Intn(4)]
	for n := (node{}); n.size() < size; n.rows = out {
		key := fmt.Sprintf("%04d", len(out))
		key += strings.Repeat("k", r.Intn(2)*r.Intn(MaxKey-len(key)+1))
		val := numberText(r.Intn(1 << 16))
		if level == 0 {
			val = strings.Repeat("v", r.Intn(most+1))
		}
		out = append(out, row{key: key, val: val})
	}
	return out
}

// P10.6: what has too much for a page is cut into two, each of which has enough, and not too much; so it is told whole.
func TestParts(t *testing.T) {
	r := rand.New(rand.NewSource(1))
	for i := range 20000 {
		n := node{level: i % 2}
		n.rows = someRows(r, n.level, 1+r.Intn(room+least))
		parts := n.parts("0")
		var rows []row
		for _, p := range parts {
			if size := p.kid.size(); size > room || size < least && len(parts) > 1 {
				t.Fatalf("a part of %d, of %d", size, n.size())
			}
			if p.kid.level != n.level || p.key > p.kid.rows[0].key {
				t.Fatalf("level %d, from %q", p.kid.level, p.key)
			}
			rows = append(rows, p.kid.rows...)
		}
		if !slices.Equal(rows, n.rows) || parts[0].key != "0" {
			t.Fatalf("%v, want %v", rows, n.rows)
		}
		if want := 1 + min(n.size()/(room+1), 1); len(parts) != want {
			t.Fatalf("%d parts of %d", len(parts), n.size())
		}
	}
}

// T6: a node is read from its bytes as they are, and from no others.
func TestForm(t *testing.T) {
	r := rand.New(rand.NewSource(1))
	for range 300 {
		n := node{level: r.Intn(2)}
		n.rows = someRows(r, n.level, r.Intn(room-mostRow+1))
		b := n.bytes()
		got, ok := nodeOf(string(b))
		if len(b) != pager.Bytes || !ok || got.level != n.level || !slices.Equal(got.rows, n.rows) {
			t.Fatalf("%d bytes, %v, %v, want %v", len(b), got, ok, n)
		}
		for at := headBytes + n.size(); at < len(b); at++ {
			b[at] = 1
			if _, ok := nodeOf(string(b)); ok {
				t.Fatalf("something stands at %d", at)
			}
			b[at] = 0
		}
		b[1] = 255
		if _, ok := nodeOf(string(b)); ok {
			t.Fatal("too many rows")
		}
	}
}

// hold is a tree of these nodes in pages from 0 on, the first one the root.
func hold(t *testing.T, nodes ...node) *Tree {
	t.Helper()
	d, _ := disk.New(10000)
	journal.Format(d)
	j, _ := journal.Open(d)
	pager.Format(j)
	p, e := pager.Open(j)
	for _, n := range nodes {
		page, _ := p.Alloc()
		e = max(e, p.Write(page, n.bytes()), p.SetRoot(0))
	}
	if e != api.OK {
		t.Fatal(e)
	}
	tree, _ := Open(p)
	return tree
}

// kidRow is a child's row.
func kidRow(key string, page int) row {
	return row{key: key, val: numberText(page)}
}

// wide is a node above the leaves that has no room for one more long key, whose children all lie in one page.
func wide(level, page int, from string) node {
	n := node{level: level, rows: []row{kidRow(from, page)}}
	for c := range 10 {
		n.rows = append(n.rows, kidRow(from+strings.Repeat(string(rune('a'+c)), MaxKey-len(from)), page))
	}
	return n
}

// leaf is a leaf of pairs that weigh so much, all of whose keys begin with a text.
func leaf(from string, size int) node {
	n := node{}
	for n.size() < size {
		n.rows = append(n.rows, row{key: fmt.Sprintf("%s%04d", from, len(n.rows)), val: strings.Repeat("v", 90)})
	}
	return n
}

// way is a root of a level, and nodes below it down to a leaf that is full.
func way(level int) []node {
	var nodes []node
	for ; level > 0; level-- {
		nodes = append(nodes, wide(level, len(nodes)+1, ""))
	}
	return append(nodes, leaf("A"+strings.Repeat("a", 75), room-100))
}

// P10.5, R1: pages that lead to each other, or round, or to the same ones, or have too few or wrong rows, are told, and each call ends.
func TestStrange(t *testing.T) {
	good := leaf("a", least)
	trees := map[string][]node{
		"round":             {wide(1, 0, "")},
		"round by two":      {wide(2, 1, ""), wide(1, 0, "")},
		"one leaf for all":  {wide(1, 1, ""), good},
		"many to few":       {wide(4, 1, ""), wide(3, 2, ""), wide(2, 3, ""), wide(1, 4, ""), good},
		"a short way":       way(1),
		"a long way":        way(100),
		"the longest way":   way(255),
		"a way to nowhere":  way(255)[:100],
		"no page":           {wide(1, 7, "")},
		"no such page":      {wide(1, 65535, "")},
		"an only child":     {{1, []row{kidRow("", 1)}}, good},
		"a child too small": {{1, []row{kidRow("", 1), kidRow("b", 2)}}, leaf("a", least-100), leaf("b", least)},
		"a child too high":  {{2, []row{kidRow("", 1), kidRow("b", 2)}}, good, leaf("b", least)},
		"a child too deep":  {{1, []row{kidRow("", 1), kidRow("b", 2)}}, good, wide(1, 1, "b")},
		"children turned":   {{1, []row{kidRow("", 2), kidRow("b", 1)}}, good, leaf("b", least)},
		"rows turned":       {{1, []row{kidRow("b", 2), kidRow("", 1)}}, good, leaf("b", least)},
		"a key twice":       {{0, []row{{key: "a"}, {key: "a"}}}},
		"keys that fall":    {{0, []row{{key: "b"}, {key: "a"}}}},
		"no rows":           {{0, nil}},
		"a long key":        {{0, []row{{key: strings.Repeat("k", MaxKey+1)}}}},
		"a long value":      {{0, []row{{val: strings.Repeat("v", MaxValue+1)}}}},
		"a child of 3":      {{1, []row{kidRow("", 1), {key: "b", val: "\x00\x00\x02"}}}, good, leaf("b", least)},
		"a later beginning": {{1, []row{kidRow("a", 1), kidRow("b", 2)}}, good, leaf("b", least)},
		"a leaf of nobody":  {good, leaf("b", least)},
	}
	for what, nodes := range trees {
		tree := hold(t, nodes...)
		if e := tree.Sound(); e != api.ErrTreeCorrupt {
			t.Errorf("%s: Sound: %v", what, e)
		}
		for range tree.Range("", "") {
		}
		for _, key := range []string{"", "A", "a", "a0001", "aaaa", "b", "b0000", "e", "\xff"} {
			tree.Get(key)
			tree.Put(key, "w")
			tree.Delete(key)
			tree.Delete("a0000")
			tree.Put("A"+strings.Repeat("a", 75)+key, strings.Repeat("v", MaxValue))
		}
		tree.Sound()
	}
}

// P10.5: what hold lays is sound where nothing is wrong with it, so that TestStrange tells what it says.
func TestHold(t *testing.T) {
	for _, nodes := range [][]node{
		{},
		{leaf("a", 1)},
		{{0, []row{{key: strings.Repeat("k", MaxKey), val: strings.Repeat("v", MaxValue)}}}},
		{{1, []row{kidRow("", 1), kidRow("b", 2)}}, leaf("a", least), leaf("b", least)},
		{{1, []row{kidRow("", 2), kidRow("b", 1)}}, leaf("b", least), leaf("a", least)},
	} {
		if e := hold(t, nodes...).Sound(); e != api.OK {
			t.Errorf("%d pages: %v", len(nodes), e)
		}
	}
}
