package agenda_test

import (
	"cmp"
	"math/rand"
	"slices"
	"testing"

	"usance/agenda"
	"usance/api"
)

// plain is an agenda as the document says it: its entries, each once.
type plain map[api.Due]int

// entries are those up to a day, in their order.
func (p plain) entries(day int) []api.Due {
	var l []api.Due
	for x := range p {
		if x.Day <= day {
			l = append(l, x)
		}
	}
	slices.SortFunc(l, func(x, y api.Due) int {
		return cmp.Or(cmp.Compare(x.Day, y.Day), cmp.Compare(x.Id, y.Id))
	})
	return l
}

func (p plain) days(id int) []int {
	var l []int
	for x := range p {
		if x.Id == id {
			l = append(l, x.Day)
		}
	}
	slices.Sort(l)
	return l
}

func (p plain) drop(id int) int {
	n := len(p.days(id))
	for x := range p {
		if x.Id == id {
			delete(p, x)
		}
	}
	return n
}

// P19.1 to P19.3: whatever is put and dropped, an agenda is as the plain one; small ranges let entries meet, great ones let it grow.
func TestPlain(t *testing.T) {
	for seed := range int64(120) {
		r := rand.New(rand.NewSource(seed))
		most := []int{3, 20, 300}[r.Intn(3)]
		a, p := agenda.New(), plain{}
		for range 300 {
			switch day, id := r.Intn(most), 1+r.Intn(most); r.Intn(8) {
			case 0:
				drops(t, a, id, p.drop(id))
			case 1:
				day = r.Intn(most+2) - 1
				up(t, a, day, p.entries(day)...)
			case 2:
				days(t, a, id, p.days(id)...)
			case 3:
				all(t, a, p.entries(api.MaxDay)...)
			default:
				puts(t, a, day, id, api.OK)
				p[due(day, id)] = 1
			}
			if t.Failed() {
				t.Fatal("seed", seed)
			}
		}
	}
}

// P19.5: in which order entries come, and how often, makes no difference, nor what was there meanwhile.
func TestAnyOrder(t *testing.T) {
	r := rand.New(rand.NewSource(5))
	for range 60 {
		p := plain{}
		for range r.Intn(200) {
			p[due(r.Intn(40), 1+r.Intn(40))] = 1
		}
		want := p.entries(api.MaxDay)
		for range 4 {
			a := agenda.New()
			for _, i := range r.Perm(len(want)) {
				puts(t, a, want[i].Day, want[i].Id, api.OK)
				puts(t, a, r.Intn(50), 41, api.OK)
				puts(t, a, want[r.Intn(len(want))].Day, want[i].Id, api.OK)
				drops(t, a, want[i].Id, len(a.Days(want[i].Id)))
			}
			for _, i := range r.Perm(len(want)) {
				puts(t, a, want[i].Day, want[i].Id, api.OK)
			}
			a.Drop(41)
			all(t, a, want...)
			for id := range 42 {
				days(t, a, id, p.days(id)...)
			}
		}
	}
}

// P19.1 to P19.3 (R1): many entries, whether they come rising, falling or mixed, are dealt with one by one without a look at all of them.
func TestMany(t *testing.T) {
	const many = 60000
	at := []func(i int) api.Due{
		func(i int) api.Due { return due(i, i+1) },
		func(i int) api.Due { return due(many-1-i, many-i) },
		func(i int) api.Due { return due(i*7919%many, i*7919%many+1) },
	}
	for _, f := range at {
		a := agenda.New()
		for i := range many {
			puts(t, a, f(i).Day, f(i).Id, api.OK)
		}
		n := 0
		for x := range a.All() {
			if x != due(n, n+1) {
				t.Fatal(n, x)
			}
			n++
		}
		if n != many {
			t.Fatal(n)
		}
		for i := range many {
			days(t, a, f(i).Id, f(i).Day)
			drops(t, a, f(i).Id, 1)
		}
		all(t, a)
	}
}

// P19.2, P19.3: a contract on every day there is.
func TestEveryDay(t *testing.T) {
	a := with(t, due(3, 1), due(3, 3))
	for day := range api.MaxDay + 1 {
		puts(t, a, api.MaxDay-day, 2, api.OK)
	}
	l := a.Days(2)
	if len(l) != api.MaxDay+1 {
		t.Fatal(len(l))
	}
	for day, got := range l {
		if got != day {
			t.Fatal(day, got)
		}
	}
	up(t, a, 3, due(0, 2), due(1, 2), due(2, 2), due(3, 1), due(3, 2), due(3, 3))
	drops(t, a, 2, api.MaxDay+1)
	all(t, a, due(3, 1), due(3, 3))
}
