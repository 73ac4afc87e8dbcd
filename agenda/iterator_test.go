package agenda_test

import (
	"iter"
	"slices"
	"testing"

	"usance/agenda"
	"usance/api"
)

func some(t *testing.T) (*agenda.Agenda, []api.Due) {
	t.Helper()
	entries := []api.Due{due(0, 3), due(2, 1), due(2, 8), due(4, 1), due(4, 2), due(9, 1), due(9, 7)}
	return with(t, entries...), entries
}

// through leaves an iterator behind some entries.
func through(s iter.Seq[api.Due], many int) []api.Due {
	var l []api.Due
	for x := range s {
		l = append(l, x)
		if len(l) == many {
			break
		}
	}
	return l
}

// P19.5: an iterator may be left at each of its entries, and gone through again, wholly or not.
func TestLeave(t *testing.T) {
	a, entries := some(t)
	for day := range 11 {
		var s iter.Seq[api.Due] = a.Up(day)
		want := slices.Collect(a.Up(day))
		if day == 10 {
			s, want = a.All(), entries
		}
		for many := 1; many <= len(want); many++ {
			if l := through(s, many); !slices.Equal(l, want[:many]) {
				t.Error(day, many, l)
			}
			if l := slices.Collect(s); !slices.Equal(l, want) {
				t.Error(day, many, l)
			}
		}
	}
}

// P19.5: two that go through one iterator at a time are not in each other's way.
func TestWithin(t *testing.T) {
	a, entries := some(t)
	s := a.All()
	var l []api.Due
	for range s {
		if inner := slices.Collect(s); !slices.Equal(inner, entries) {
			t.Error(inner)
		}
		l = append(l, slices.Collect(a.Up(0))...)
	}
	if len(l) != len(entries) {
		t.Error(l)
	}
	next, stop := iter.Pull(s)
	defer stop()
	other, stopOther := iter.Pull(s)
	defer stopOther()
	for _, want := range entries {
		x, ok := next()
		y, too := other()
		if x != want || y != want || !ok || !too {
			t.Error(x, ok, y, too, want)
		}
	}
	if x, ok := next(); ok {
		t.Error(x)
	}
}

// R7: an iterator goes through what there is when that is begun, not when it was answered.
func TestBegun(t *testing.T) {
	a, _ := some(t)
	s, u := a.All(), a.Up(2)
	drops(t, a, 1, 3)
	puts(t, a, 1, 5, api.OK)
	if l := slices.Collect(s); !slices.Equal(l, []api.Due{due(0, 3), due(1, 5), due(2, 8), due(4, 2), due(9, 7)}) {
		t.Error(l)
	}
	if l := slices.Collect(u); !slices.Equal(l, []api.Due{due(0, 3), due(1, 5), due(2, 8)}) {
		t.Error(l)
	}
	for _, id := range []int{2, 3, 5, 7, 8} {
		drops(t, a, id, 1)
	}
	if l := slices.Collect(s); len(l) != 0 {
		t.Error(l)
	}
}

// R1: it ends, whatever its body does with the agenda, which is right behind that.
func TestChangedMeanwhile(t *testing.T) {
	a, entries := some(t)
	n := 0
	for x := range a.All() {
		if n++; n > 2*len(entries) {
			t.Fatal("it goes on and on")
		}
		puts(t, a, x.Day+1, x.Id, api.OK)
		a.Drop(8)
	}
	b := with(t, due(0, 3), due(2, 1), due(2, 8), due(4, 1), due(4, 2), due(9, 1), due(9, 7), due(1, 3), due(3, 1), due(5, 1), due(5, 2), due(10, 1), due(10, 7))
	b.Drop(8)
	all(t, a, slices.Collect(b.All())...)
	for x := range a.All() {
		a.Drop(x.Id)
	}
	all(t, a)
	days(t, a, 1)
}

// R3: what Days answers is new memory, its spare room too.
func TestNewMemory(t *testing.T) {
	a, entries := some(t)
	want := []int{2, 4, 9}
	for range 3 {
		l := a.Days(1)
		if !slices.Equal(l, want) {
			t.Fatal(l)
		}
		l = l[:cap(l)]
		for i := range l {
			l[i] = 77
		}
	}
	l, m := a.Days(1), a.Days(1)
	_ = append(l, 5)
	l[0] = 6
	if !slices.Equal(m, want) {
		t.Error(m)
	}
	drops(t, a, 7, 1)
	all(t, a, entries[:6]...)
}

// R4: agendas that were given the same answer the same, each by itself.
func TestAlone(t *testing.T) {
	a, entries := some(t)
	b, _ := some(t)
	drops(t, a, 1, 3)
	all(t, b, entries...)
	puts(t, b, 5, 5, api.OK)
	days(t, a, 5)
	drops(t, b, 1, 3)
	drops(t, b, 5, 1)
	all(t, a, slices.Collect(b.All())...)
}
