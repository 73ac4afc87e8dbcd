package kv_test

import (
	"fmt"
	"math/rand"
	"slices"
	"strings"
	"testing"

	"usance/api"
	"usance/kv"
)

// P12.3: what a pair weighs, to the byte: at the limit it is done, above it it is not.
func TestWeight(t *testing.T) {
	for _, sectors := range []int{256, 257, 300, 1000, 1021} {
		for _, key := range []string{"", "k", "key", bytes(64), strings.Repeat("\x00", 64)} {
			for _, val := range []int{0, 1, 189, 190, 191, 379, 380, 1000, 1139, 1140} {
				one := api.Put{Space: 9, Key: key, Val: bytes(val)}
				weighs := (12+len(key))*(1+val/190) + val
				for more := range 3 {
					_, s := begun(t, sectors)
					fill := filling(6*sectors - weighs + more - 1)
					if fill == nil {
						continue
					}
					mustCommit(t, s, fill...)
					want := api.OK
					if more > 1 {
						want = api.ErrKvFull
					}
					is(t, fmt.Sprintf("Commit of %d bytes by a key of %d", val, len(key)), s.Commit([]api.Put{one}), want)
					is(t, "Commit again", s.Commit([]api.Put{{Space: 9, Key: key, Gone: true}, one}), want)
				}
			}
		}
	}
}

// filling is puts that weigh just so much together, of namespace 1; nil, if there are none such.
func filling(weight int) []api.Put {
	out := []api.Put{}
	for weight > 0 {
		key := string(rune('A' + len(out)))
		best := -1
		for val := range 4097 {
			// What is left is nothing, or enough for another one.
			if rest := weight - 13*(1+val/190) - val; rest == 0 || rest >= 26 {
				best = val
			}
		}
		if best < 0 {
			return nil
		}
		out = append(out, api.Put{Space: 1, Key: key, Val: bytes(best)})
		weight -= 13*(1+best/190) + best
	}
	if weight < 0 {
		return nil
	}
	return out
}

// P12.3: the example's weights, one by one.
func TestWeightsAdd(t *testing.T) {
	_, s := begun(t, 300)
	mustCommit(t, s, api.Put{Space: 2, Key: "a", Val: "y"}, api.Put{Space: 1, Key: "b", Val: bytes(400)})
	// 1800 less 14 and 439 is 1347: 13 times 7, and 1256 (six times 190 is 1140).
	is(t, "Commit of one more", s.Commit([]api.Put{{Space: 5, Key: "c", Val: bytes(1257)}}), api.ErrKvFull)
	mustCommit(t, s, api.Put{Space: 5, Key: "c", Val: bytes(1256)})
	is(t, "Commit of the least", s.Commit([]api.Put{{}}), api.ErrKvFull)
	is(t, "Commit of one byte more", s.Commit([]api.Put{{Space: 2, Key: "a", Val: "yy"}}), api.ErrKvFull)
	mustCommit(t, s, api.Put{Space: 2, Key: "a", Val: "z"})
	mustCommit(t, s, api.Put{Space: 2, Key: "a", Gone: true}, api.Put{Val: "zz"})
	is(t, "Commit of the least", s.Commit([]api.Put{{Space: 8}}), api.ErrKvFull)
	plain{{5, "c"}: bytes(1256), {1, "b"}: bytes(400), {0, ""}: "zz"}.tells(t, s, 4)
}

// P12.3: the limit's weight is always taken, whatever the pairs look like, and all of them may go for others at once: there are pages enough.
func TestRoom(t *testing.T) {
	r := rand.New(rand.NewSource(3))
	var sectors []int
	for n := 256; n < 272; n++ {
		sectors = append(sectors, n)
	}
	for _, n := range append(sectors, 277, 278, 500, 2000) {
		for _, key := range []int{1, 20, 64} {
			for _, val := range []int{0, 30, 100, 189, 190, 379, 1400} {
				fillUp(t, r, n, key, val)
			}
		}
		if t.Failed() {
			t.Fatalf("%d sectors", n)
		}
	}
}

// fillUp fills a store with pairs of one size, lets others take their places, some by chance, and all at once.
func fillUp(t *testing.T, r *rand.Rand, sectors, key, val int) {
	t.Helper()
	weighs := (12+key)*(1+val/190) + val
	count := 6 * sectors / weighs
	if count == 0 {
		return
	}
	if key == 1 {
		count = min(count, 256)
	}
	d, s := begun(t, sectors)
	now := plain{}
	put := func(i int, other byte) api.Put {
		k := string([]byte{byte(i)})
		if key > 1 {
			k = string([]byte{byte(i * 37), byte(i >> 8), byte(i)}) + strings.Repeat(string(rune(other)), key-3)
		}
		return api.Put{Space: int(other), Key: k, Val: bytes(val)}
	}
	var here, there []api.Put
	for i := range count {
		here, there = append(here, put(i, 'a')), append(there, put(i, 'b'))
	}
	r.Shuffle(count, func(i, j int) { here[i], here[j] = here[j], here[i] })
	for part := range slices.Chunk(here, 1+count/4) {
		now = now.with(part)
		mustCommit(t, s, part...)
	}
	for range 6 {
		i := r.Intn(count)
		l := []api.Put{there[i], {Space: here[i].Space, Key: here[i].Key, Gone: true}}
		now = now.with(l)
		mustCommit(t, s, l...)
		here[i], there[i] = there[i], here[i]
	}
	l := slices.Clone(there)
	for _, p := range here {
		l = append(l, api.Put{Space: p.Space, Key: p.Key, Gone: true})
	}
	now = now.with(l)
	mustCommit(t, s, l...)
	now.tells(t, mustOpen(t, d), s.Seq())
}

// P12.3: the greatest disk, filled by Commits of many puts, and by one.
func TestGreat(t *testing.T) {
	r := rand.New(rand.NewSource(4))
	d, s := begun(t, api.MaxSectors)
	now := plain{}
	for {
		var l []api.Put
		for range 60 {
			l = append(l, api.Put{Space: r.Intn(256), Key: text(r, r.Intn(65), 256), Val: text(r, r.Intn(400), 256)})
		}
		next := now.with(l)
		e := s.Commit(l)
		if next.weight() > 6*api.MaxSectors {
			is(t, "Commit of too much", e, api.ErrKvFull)
			break
		}
		is(t, "Commit", e, api.OK)
		now = next
	}
	now.tells(t, s, s.Seq())
	now.tells(t, mustOpen(t, d.Crash(nil)), s.Seq())
	var l []api.Put
	for _, n := range now.names() {
		l = append(l, api.Put{Space: n.space, Key: n.key, Gone: true})
	}
	for i := range 20 {
		l = append(l, api.Put{Space: i, Key: bytes(64), Val: text(r, 3200, 256)})
	}
	ops := d.Ops()
	mustCommit(t, s, l...)
	if took := d.Ops() - ops; took > 4*api.MaxSectors+100 {
		t.Errorf("%d operations", took)
	}
	now.with(l).tells(t, mustOpen(t, d), s.Seq())
}

// P12.3: of so many Commits none takes more operations than it may; each is counted.
func TestManyCommits(t *testing.T) {
	d, s := begun(t, 256)
	for i := range 500 {
		ops := d.Ops()
		mustCommit(t, s, api.Put{Space: i % 3, Key: string([]byte{byte(i % 7)}), Val: bytes(i % 50)})
		if took := d.Ops() - ops; took > 4*256+100 {
			t.Fatalf("%d operations", took)
		}
	}
	if x, e := kv.Open(d); e != api.OK || x.Seq() != 500 {
		t.Errorf("Open: %v", e)
	}
}
