package vm_test

import (
	"slices"
	"strconv"
	"strings"
	"testing"

	"usance/api"
	"usance/gen"
)

// rows are chapter 17's, by the Ops' numbers from 1 on: an Op's word and the fields that its instructions use.
var rows = strings.Split("INum A N; IFeed A S N To; INow A N; INeg A B; IAdd A B C; ISub A B C; IMul A B C; IDiv A B C; ILt A B C; ILe A B C; IEq A B C; INot A B; IBefore A B C; IPlus A B C; IMonths A B C; IYears A B C; IYears30 A B C; IMove A B; IFalse B To; IGo To; IPast N To; IAhead N To; IScale B; IGive; ISave A; ILoad B; IPay S; IWait N; ICall N; IEnd", "; ")

// fieldsOf are the fields that an Op's instructions use.
func fieldsOf(op int) []string { return strings.Fields(rows[op-1])[1:] }

// instr reads an instruction: its Op's word and its fields, in the row's order.
func instr(text string) api.Instr {
	words := strings.Fields(text)
	i := api.Instr{Op: 1 + slices.IndexFunc(rows, func(row string) bool { return strings.Fields(row)[0] == words[0] })}
	for k, field := range fieldsOf(i.Op) {
		n, _ := strconv.ParseInt(words[k+1], 10, 64)
		switch field {
		case "A":
			i.A = int(n)
		case "B":
			i.B = int(n)
		case "C":
			i.C = int(n)
		case "N":
			i.N = n
		case "To":
			i.To = int(n)
		case "S":
			i.S = words[k+1]
		}
	}
	return i
}

// read reads instructions, parted by semicolons, as a bytecode of eight registers; an end stands behind them.
func read(text string, waits ...api.Wait) api.Code {
	c := api.Code{Regs: 8, Waits: waits}
	for _, one := range strings.Split(text, ";") {
		if strings.TrimSpace(one) != "" {
			c.Ins = append(c.Ins, instr(one))
		}
	}
	c.Ins = append(c.Ins, instr("IEnd"))
	if !gen.Right(c) {
		panic("no right bytecode: " + text)
	}
	return c
}

// The tests' own reader reads what it is to read.
func TestReader(t *testing.T) {
	want := []api.Instr{{Op: api.INum, A: 3, N: -7}, {Op: api.IFeed, A: 1, S: "eur", N: 2, To: 5}, {Op: api.IAdd, A: 1, B: 2, C: 3}, {Op: api.IFalse, B: 4, To: 6}, {Op: api.IPast, N: 9, To: 8}, {Op: api.IScale, B: 2}, {Op: api.ISave, A: 5}, {Op: api.IPay, S: "EUR"}, {Op: api.IWait}, {Op: api.IGo, To: 10}, {Op: api.IEnd}}
	if got := read("INum 3 -7; IFeed 1 eur 2 5; IAdd 1 2 3; IFalse 4 6; IPast 9 8; IScale 2; ISave 5; IPay EUR; IWait 0; IGo 10", api.Wait{}); !slices.Equal(got.Ins, want) || got.Regs != 8 || len(got.Waits) != 1 {
		t.Error(got)
	}
	if len(rows) != api.IEnd {
		t.Error(len(rows))
	}
}

func told(name string, daysAndNumbers ...int64) api.Feed {
	f := api.Feed{Name: name}
	for pair := range slices.Chunk(daysAndNumbers, 2) {
		f.Stamps = append(f.Stamps, api.Stamp{Day: int(pair[0]), N: pair[1]})
	}
	return f
}

func feeds(l ...api.Feed) []api.Feed { return l }

func holds(waitsAndFactors ...int64) []api.Hold {
	var out []api.Hold
	for pair := range slices.Chunk(waitsAndFactors, 2) {
		out = append(out, api.Hold{Wait: int(pair[0]), Factor: pair[1]})
	}
	return out
}

// pays are transfers of a day, as `5 EUR -3 USD`.
func pays(on int, text string) []api.Transfer {
	var out []api.Transfer
	for pair := range slices.Chunk(strings.Fields(text), 2) {
		n, e := strconv.ParseInt(pair[0], 10, 64)
		if e != nil {
			panic(e)
		}
		out = append(out, api.Transfer{Day: on, Cur: pair[1], Amount: n})
	}
	return out
}

func picks(label string, which int) api.Choice { return api.Choice{Label: label, Which: which} }

var none api.Choice
