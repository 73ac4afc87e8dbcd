package agenda_test

import (
	"math"
	"slices"
	"testing"

	"usance/agenda"
	"usance/api"
)

func due(day, id int) api.Due { return api.Due{Day: day, Id: id} }

// with is an agenda into which these were put, one by one.
func with(t *testing.T, entries ...api.Due) *agenda.Agenda {
	t.Helper()
	a := agenda.New()
	for _, x := range entries {
		puts(t, a, x.Day, x.Id, api.OK)
	}
	return a
}

func puts(t *testing.T, a *agenda.Agenda, day, id int, want api.Errno) {
	t.Helper()
	if e := a.Put(day, id); e != want {
		t.Errorf("Put(%d, %d): %d, want %d", day, id, e, want)
	}
}

func drops(t *testing.T, a *agenda.Agenda, id, want int) {
	t.Helper()
	if n := a.Drop(id); n != want {
		t.Errorf("Drop(%d): %d, want %d", id, n, want)
	}
}

func all(t *testing.T, a *agenda.Agenda, want ...api.Due) {
	t.Helper()
	if l := slices.Collect(a.All()); !slices.Equal(l, want) {
		t.Errorf("All: %v, want %v", l, want)
	}
}

func up(t *testing.T, a *agenda.Agenda, day int, want ...api.Due) {
	t.Helper()
	if l := slices.Collect(a.Up(day)); !slices.Equal(l, want) {
		t.Errorf("Up(%d): %v, want %v", day, l, want)
	}
}

func days(t *testing.T, a *agenda.Agenda, id int, want ...int) {
	t.Helper()
	if l := a.Days(id); !slices.Equal(l, want) {
		t.Errorf("Days(%d): %v, want %v", id, l, want)
	}
}

// P19.1, P19.2, P19.3: the chapter's examples.
func TestExamples(t *testing.T) {
	a := with(t, due(9, 2), due(5, 7), due(9, 1), due(5, 7))
	all(t, a, due(5, 7), due(9, 1), due(9, 2))
	up(t, a, 8, due(5, 7))
	days(t, a, 2, 9)
	drops(t, a, 7, 1)
	all(t, a, due(9, 1), due(9, 2))
	drops(t, a, 7, 0)
	puts(t, a, -1, 0, api.ErrAgendaDay)
	puts(t, a, 3, 0, api.ErrArg)
	all(t, a, due(9, 1), due(9, 2))
}

// P19.1: a new agenda has no entries, and two of them have nothing in common.
func TestNew(t *testing.T) {
	a, b := agenda.New(), agenda.New()
	if a == nil || b == nil || a == b {
		t.Fatal(a, b)
	}
	all(t, a)
	up(t, a, api.MaxDay)
	days(t, a, 1)
	drops(t, a, 1, 0)
	puts(t, a, 3, 1, api.OK)
	all(t, a, due(3, 1))
	all(t, b)
	days(t, b, 1)
}

// P19.1: days and numbers at their edges; the day is looked at first; what is refused changes nothing.
func TestPutEdges(t *testing.T) {
	for _, x := range []struct {
		day, id int
		e       api.Errno
	}{
		{0, 1, api.OK},
		{api.MaxDay, 1, api.OK},
		{0, math.MaxInt32, api.OK},
		{api.MaxDay, math.MaxInt32, api.OK},
		{-1, 1, api.ErrAgendaDay},
		{api.MaxDay + 1, 1, api.ErrAgendaDay},
		{math.MinInt, 1, api.ErrAgendaDay},
		{math.MaxInt, 1, api.ErrAgendaDay},
		{0, 0, api.ErrArg},
		{0, -1, api.ErrArg},
		{0, math.MaxInt32 + 1, api.ErrArg},
		{api.MaxDay, math.MinInt, api.ErrArg},
		{api.MaxDay, math.MaxInt, api.ErrArg},
		{-1, 0, api.ErrAgendaDay},
		{api.MaxDay + 1, math.MaxInt32 + 1, api.ErrAgendaDay},
		{math.MinInt, math.MinInt, api.ErrAgendaDay},
	} {
		a := with(t, due(7, 7))
		puts(t, a, x.day, x.id, x.e)
		if x.e != api.OK {
			all(t, a, due(7, 7))
			days(t, a, x.id)
			drops(t, a, x.id, 0)
			continue
		}
		days(t, a, x.id, x.day)
		drops(t, a, x.id, 1)
		all(t, a, due(7, 7))
	}
}

// P19.1: an entry that is there is put again, and is there once; one of its day, or of its number, is another one.
func TestPutTwice(t *testing.T) {
	a := with(t, due(4, 2), due(4, 2), due(4, 3), due(5, 2), due(4, 2), due(5, 2))
	all(t, a, due(4, 2), due(4, 3), due(5, 2))
	days(t, a, 2, 4, 5)
	drops(t, a, 2, 2)
	all(t, a, due(4, 3))
	puts(t, a, 4, 2, api.OK)
	puts(t, a, 4, 2, api.OK)
	all(t, a, due(4, 2), due(4, 3))
	days(t, a, 2, 4)
}

// P19.2: all of a number's entries go, no others; of what is no number there were none.
func TestDrop(t *testing.T) {
	entries := []api.Due{due(0, 1), due(0, math.MaxInt32), due(3, 1), due(3, 2), due(9, 2), due(api.MaxDay, 1), due(api.MaxDay, 2)}
	a := with(t, entries...)
	for _, id := range []int{0, -1, 3, math.MaxInt32 - 1, math.MaxInt32 + 1, math.MinInt, math.MaxInt} {
		drops(t, a, id, 0)
	}
	all(t, a, entries...)
	drops(t, a, 1, 3)
	days(t, a, 1)
	days(t, a, 2, 3, 9, api.MaxDay)
	all(t, a, due(0, math.MaxInt32), due(3, 2), due(9, 2), due(api.MaxDay, 2))
	drops(t, a, 2, 3)
	drops(t, a, math.MaxInt32, 1)
	all(t, a)
	drops(t, a, 2, 0)
}

// P19.3: Up counts its day, and takes whatever is none; Days rise, and are of one number alone.
func TestUpAndDays(t *testing.T) {
	entries := []api.Due{due(0, 5), due(3, 1), due(3, 4), due(4, 1), due(api.MaxDay, 1), due(api.MaxDay, 9)}
	a := with(t, entries...)
	for _, x := range []struct{ day, many int }{
		{math.MinInt, 0}, {-1, 0}, {0, 1}, {1, 1}, {2, 1}, {3, 3}, {4, 4}, {5, 4}, {api.MaxDay - 1, 4}, {api.MaxDay, 6}, {api.MaxDay + 1, 6}, {math.MaxInt, 6},
	} {
		up(t, a, x.day, entries[:x.many]...)
	}
	days(t, a, 1, 3, 4, api.MaxDay)
	days(t, a, 4, 3)
	days(t, a, 5, 0)
	days(t, a, 9, api.MaxDay)
	for _, id := range []int{math.MinInt, -1, 0, 2, 8, 10, math.MaxInt32, math.MaxInt32 + 1, math.MaxInt} {
		days(t, a, id)
	}
}

// P19.4: of a nil agenda there is nothing, and iterators that yield nothing.
func TestNil(t *testing.T) {
	var a *agenda.Agenda
	for _, x := range []int{math.MinInt, -1, 0, 1, 5, api.MaxDay, math.MaxInt32, math.MaxInt} {
		puts(t, a, x, 1, api.ErrNil)
		puts(t, a, 5, x, api.ErrNil)
		drops(t, a, x, 0)
		days(t, a, x)
		up(t, a, x)
	}
	all(t, a)
	for range a.All() {
		t.Error("an entry")
	}
}
