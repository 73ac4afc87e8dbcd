package vm_test

import (
	"fmt"
	"slices"
	"testing"

	"usance/api"
	"usance/vm"
)

// event is what a call answers.
type event struct {
	holds     []api.Hold
	transfers []api.Transfer
	steps     int
	e         api.Errno
}

func (v event) is(w event) bool {
	return slices.Equal(v.holds, w.holds) && slices.Equal(v.transfers, w.transfers) && v.steps == w.steps && v.e == w.e
}

var refused = event{e: api.ErrVmForm}

// asked is all that is handed in to a call.
type asked struct {
	c    api.Code
	l    []api.Hold
	on   int
	f    []api.Feed
	pick api.Choice
}

func begin(a asked) event {
	l, out, steps, e := vm.Begin(a.c, a.on, a.f)
	return event{l, out, steps, e}
}

func step(a asked) event {
	l, out, steps, e := vm.Step(a.c, a.l, a.on, a.f, a.pick)
	return event{l, out, steps, e}
}

func begins(t *testing.T, a asked, want event) {
	t.Helper()
	if got := begin(a); !got.is(want) {
		t.Errorf("%.500s: %.500s, want %.500s", fmt.Sprint(a), fmt.Sprint(got), fmt.Sprint(want))
	}
}

func steps(t *testing.T, a asked, want event) {
	t.Helper()
	if got := step(a); !got.is(want) {
		t.Errorf("%.500s: %.500s, want %.500s", fmt.Sprint(a), fmt.Sprint(got), fmt.Sprint(want))
	}
}

// P18.1, P18.2: the chapter's examples.
func TestExamples(t *testing.T) {
	begins(t, asked{c: read("IPay EUR"), on: 3}, event{transfers: pays(3, "1000000 EUR"), steps: 2})
	c := read("ICall 0; IEnd; IAhead 10 5; IPay EUR; IEnd; IWait 0", api.Wait{Entry: 2, Day: 10})
	begins(t, asked{c: c, on: 5}, event{holds: holds(0, 1000000), steps: 5})
	steps(t, asked{c: c, l: holds(0, 1000000), on: 10}, event{transfers: pays(10, "1000000 EUR"), steps: 3})
	steps(t, asked{c: c, l: holds(0, 1000000), on: 9}, event{holds: holds(0, 1000000), steps: 3})
}

// P18.1: a run begins at 0, with the factor of one, whatever waits there are.
func TestBegin(t *testing.T) {
	begins(t, asked{c: read("")}, event{steps: 1})
	begins(t, asked{c: api.Code{Ins: []api.Instr{{Op: api.IEnd}}}, on: 73048}, event{steps: 1})
	begins(t, asked{c: read("IEnd; IPay EUR"), on: 3}, event{steps: 1})
	c := read("IPay EUR; IEnd; IPay USD", api.Wait{Entry: 2, Day: 3, Label: "ex", First: 2, Second: 2})
	begins(t, asked{c: c, on: 3}, event{transfers: pays(3, "1000000 EUR"), steps: 2})
	begins(t, asked{c: read("IPay EUR; IWait 1; IGive; IPay EUR; IPay USD; IWait 0; IWait 1; IPay GBP", api.Wait{}, api.Wait{Entry: 3}), on: 73048}, event{
		holds(1, 1000000, 0, -1000000, 1, -1000000), pays(73048, "1000000 EUR -1000000 EUR -1000000 USD -1000000 GBP"), 9, api.OK,
	})
}

// P18.2: each hold is run, in order, from its own wait's Entry, with its factor.
func TestStep(t *testing.T) {
	c := read("IPay GBP; IEnd; IPay EUR; IEnd; IPay USD; IWait 1; IWait 0; IGive; IPay USD", api.Wait{Entry: 2}, api.Wait{Entry: 4, Day: 9})
	steps(t, asked{c: c, on: 3}, event{})
	steps(t, asked{c: c, l: []api.Hold{}, on: 3, pick: picks("a", 1)}, event{})
	steps(t, asked{c: c, l: holds(0, 5), on: 3}, event{transfers: pays(3, "5 EUR"), steps: 2})
	steps(t, asked{c: c, l: holds(1, -7), on: 3}, event{holds(1, -7, 0, -7), pays(3, "-7 USD 7 USD"), 6, api.OK})
	steps(t, asked{c: c, l: holds(1, 7, 0, 5, 0, 0, 0, -api.MaxNum, 1, 2), on: 3}, event{holds(1, 7, 0, 7, 1, 2, 0, 2), pays(3, "7 USD -7 USD 5 EUR -1000000000000000 EUR 2 USD -2 USD"), 18, api.OK})
	steps(t, asked{c: read("IPay EUR", api.Wait{}), l: holds(0, 3), on: 4}, event{transfers: pays(4, "3 EUR"), steps: 2})
}

// P18.2: a choice is of the holds with its label, and of no others.
func TestChoices(t *testing.T) {
	c := read("IPay AAA; IEnd; IPay BBB; IEnd; IPay CCC; IEnd; IPay DDD; IEnd; IPay EEE",
		api.Wait{Entry: 0, Label: "ex", First: 2, Second: 4}, api.Wait{Entry: 6}, api.Wait{Entry: 0, Label: "exx", First: 8, Second: 6}, api.Wait{Entry: 8, Label: "ex", First: 4, Second: 0}, api.Wait{Entry: 2, Label: "if", First: 0, Second: 2})
	l := holds(0, 1, 1, 2, 2, 3, 3, 4, 4, 5, 0, 6)
	for _, test := range []struct {
		pick api.Choice
		want string
	}{
		{none, "1 AAA 2 DDD 3 AAA 4 EEE 5 BBB 6 AAA"},
		{picks("ex", 1), "1 BBB 2 DDD 3 AAA 4 CCC 5 BBB 6 BBB"},
		{picks("ex", 2), "1 CCC 2 DDD 3 AAA 4 AAA 5 BBB 6 CCC"},
		{picks("exx", 1), "1 AAA 2 DDD 3 EEE 4 EEE 5 BBB 6 AAA"},
		{picks("exx", 2), "1 AAA 2 DDD 3 DDD 4 EEE 5 BBB 6 AAA"},
		{picks("if", 1), "1 AAA 2 DDD 3 AAA 4 EEE 5 AAA 6 AAA"},
		{picks("if", 2), "1 AAA 2 DDD 3 AAA 4 EEE 5 BBB 6 AAA"},
		{picks("e", 1), "1 AAA 2 DDD 3 AAA 4 EEE 5 BBB 6 AAA"},
		{picks("other", 2), "1 AAA 2 DDD 3 AAA 4 EEE 5 BBB 6 AAA"},
	} {
		for _, on := range []int{0, 9, 73048} {
			steps(t, asked{c: c, l: l, on: on, pick: test.pick}, event{transfers: pays(on, test.want), steps: 12})
		}
	}
}

// P18.2: what is called, and what begins, does not see the choice.
func TestChoiceOfHoldsAlone(t *testing.T) {
	c := read("IPay AAA; ICall 1; IWait 1; IEnd; IPay BBB; IEnd; IPay CCC", api.Wait{Label: "ex", First: 1, Second: 2}, api.Wait{Entry: 4, Label: "ex", First: 6, Second: 6})
	steps(t, asked{c: c, l: holds(0, 7), on: 3, pick: picks("ex", 1)}, event{holds(1, 7), pays(3, "7 BBB"), 5, api.OK})
	steps(t, asked{c: c, l: holds(0, 7), on: 3, pick: picks("ex", 2)}, event{holds(1, 7), nil, 2, api.OK})
	steps(t, asked{c: c, l: holds(0, 7, 1, 8), on: 3, pick: picks("ex", 1)}, event{holds(1, 7), pays(3, "7 BBB 8 CCC"), 7, api.OK})
	steps(t, asked{c: c, l: holds(0, 7, 1, 8), on: 3}, event{holds(1, 7), pays(3, "7 AAA 7 BBB 8 BBB"), 8, api.OK})
}
