package gen_test

import (
	"math"
	"regexp"
	"slices"
	"strings"
	"testing"

	"usance/api"
	"usance/gen"
)

// table is the chapter's: which fields the instructions of an Op use.
var table = map[int]string{
	api.INum: "A N", api.IFeed: "A S N To", api.INow: "A N", api.INeg: "A B", api.INot: "A B", api.IAdd: "A B C", api.ISub: "A B C", api.IMul: "A B C", api.IDiv: "A B C", api.ILt: "A B C", api.ILe: "A B C", api.IEq: "A B C", api.IBefore: "A B C",
	api.IPlus: "A B C", api.IMonths: "A B C", api.IYears: "A B C", api.IYears30: "A B C", api.IMove: "A B", api.IFalse: "B To", api.IGo: "To", api.IPast: "N To", api.IAhead: "N To", api.IScale: "B", api.IGive: "", api.ISave: "A", api.ILoad: "B", api.IPay: "S", api.IWait: "N", api.ICall: "N", api.IEnd: "",
}

var (
	aName     = regexp.MustCompile(`\A[a-z][a-z0-9_]{0,23}\z`)
	aCurrency = regexp.MustCompile(`\A[A-Z]{3}\z`)
)

// rightly is a plain model: is an instruction right where it stands?
func rightly(c api.Code, at int) bool {
	i := c.Ins[at]
	row, is := table[i.Op]
	fields := strings.Fields(row)
	in := func(field string, n, least, most int64) bool {
		return n == 0 && !slices.Contains(fields, field) || slices.Contains(fields, field) && least <= n && n <= most
	}
	least, most := int64(0), int64(0)
	switch i.Op {
	case api.INum:
		least, most = -1000000000000000, 1000000000000000
	case api.IFeed, api.INow:
		most = 3660
	case api.IPast, api.IAhead:
		most = 73048
	case api.IWait, api.ICall:
		most = int64(len(c.Waits)) - 1
	}
	last := int64(c.Regs) - 1
	if !is || !in("N", i.N, least, most) || !in("A", int64(i.A), 0, last) || !in("B", int64(i.B), 0, last) || !in("C", int64(i.C), 0, last) || !in("To", int64(i.To), int64(at)+1, int64(len(c.Ins))-1) {
		return false
	}
	switch i.Op {
	case api.ICall:
		return c.Waits[i.N].Entry > at && i.S == ""
	case api.IFeed:
		return aName.MatchString(i.S)
	case api.IPay:
		return aCurrency.MatchString(i.S)
	}
	return i.S == ""
}

// right is a plain model of right bytecodes.
func right(c api.Code) bool {
	n := len(c.Ins)
	if c.Regs < 0 || c.Regs > 256 || len(c.Waits) > 250 || n < 1 || n > 16384 || c.Ins[n-1].Op != api.IEnd {
		return false
	}
	isPlace := func(at int) bool { return 0 <= at && at < n }
	for _, w := range c.Waits {
		if !isPlace(w.Entry) || w.Day < 0 || w.Day > 73048 || w.Label == "" && (w.First != 0 || w.Second != 0) || w.Label != "" && (!aName.MatchString(w.Label) || !isPlace(w.First) || !isPlace(w.Second)) {
			return false
		}
	}
	for at := range c.Ins {
		if !rightly(c, at) {
			return false
		}
	}
	return true
}

// judges checks what Right, Fuel and Encode say of a bytecode.
func judges(t *testing.T, c api.Code, want bool) {
	t.Helper()
	fuel, e := 0, api.ErrGenForm
	if want {
		fuel, e = len(c.Ins), api.OK
	}
	if got := gen.Right(c); got != want || gen.Fuel(c) != fuel {
		t.Errorf("%.600v: %v, %d", c, got, gen.Fuel(c))
	}
	if b, got := gen.Encode(c); got != e || (len(b) > 0) != want {
		t.Errorf("%.600v: %v, %v", c, b, got)
	}
}

var words = []string{"", "a", "z9_", "if", "feed", "eur", "abcdefghijklmnopqrstuvwx", "abcdefghijklmnopqrstuvwxy", "A", "Eur", "9a", "_a", "a.b", "a b", "a\x00", "é", "EUR", "USD", "ZZZ", "AB", "ABCD", "EU1", "eUR"}

// frame is a bytecode in which an instruction stands at the place 2.
func frame(i api.Instr) api.Code {
	ins := make([]api.Instr, 7)
	for at := range ins {
		ins[at].Op = api.IEnd
	}
	ins[2] = i
	return api.Code{Regs: 3, Waits: []api.Wait{{Entry: 3}, {Entry: 6, Day: 9, Label: "ex", First: 4}, {Entry: 2}, {}}, Ins: ins}
}

// P17.2: instructions of each Op, each field of which is what it may and may not be.
func TestInstructions(t *testing.T) {
	seen := map[bool]int{}
	judge := func(i api.Instr) {
		want := right(frame(i))
		seen[want]++
		judges(t, frame(i), want)
	}
	for op := -1; op <= api.IEnd+2; op++ {
		i := api.Instr{Op: op}
		for _, field := range strings.Fields(table[op]) {
			switch field {
			case "S":
				i.S = map[int]string{api.IFeed: "eur", api.IPay: "EUR"}[op]
			case "To":
				i.To = 3
			}
		}
		if _, is := table[op]; right(frame(i)) != is {
			t.Error(i)
		}
		for _, n := range []int{0, 1, 2, 3, 4, 6, 7, -1, 256, math.MaxInt, math.MinInt, 1 << 32} {
			a, b, c, to := i, i, i, i
			a.A, b.B, c.C, to.To = n, n, n, n
			judge(a)
			judge(b)
			judge(c)
			judge(to)
		}
		for _, n := range []int64{0, 1, -1, 2, 3, 4, 5, 3660, 3661, -3660, 73048, 73049, 1e15, 1e15 + 1, -1e15, -1e15 - 1, math.MaxInt64, math.MinInt64, 1 << 32, 1 << 40} {
			with := i
			with.N = n
			judge(with)
		}
		for _, s := range words {
			with := i
			with.S = s
			judge(with)
		}
	}
	for _, op := range []int{math.MinInt, math.MaxInt, 1 << 32, 1<<32 + api.IEnd, 256 + api.IEnd} {
		judge(api.Instr{Op: op})
	}
	if seen[true] < 200 || seen[false] < 500 {
		t.Error(seen)
	}
}

// P17.2: waits, each field of which is what it may and may not be.
func TestWaits(t *testing.T) {
	seen := map[bool]int{}
	for _, n := range []int{0, 1, 6, 7, -1, 73048, 73049, math.MaxInt, math.MinInt, 1 << 32} {
		for _, label := range words {
			for _, w := range []api.Wait{{Entry: n, Label: label}, {Day: n, Label: label}, {First: n, Label: label}, {Second: n, Label: label}} {
				c := frame(api.Instr{Op: api.IGive})
				c.Waits[3] = w
				seen[right(c)]++
				judges(t, c, right(c))
			}
		}
	}
	if seen[true] < 60 || seen[false] < 500 {
		t.Error(seen)
	}
}

// ends are so many ends.
func ends(count int) []api.Instr {
	l := make([]api.Instr, count)
	for at := range l {
		l[at].Op = api.IEnd
	}
	return l
}

// P17.2: how many registers, waits and instructions there may be, and that the last one is an end.
func TestLimits(t *testing.T) {
	for _, test := range []struct {
		c    api.Code
		want bool
	}{
		{api.Code{}, false}, {api.Code{Regs: 1}, false}, {api.Code{Waits: make([]api.Wait, 1)}, false}, {api.Code{Ins: []api.Instr{}}, false},
		{api.Code{Ins: ends(1)}, true}, {api.Code{Ins: ends(2)}, true}, {api.Code{Ins: make([]api.Instr, 1)}, false}, {api.Code{Ins: ends(16384)}, true}, {api.Code{Ins: ends(16385)}, false}, {api.Code{Ins: ends(20000)}, false},
		{api.Code{Regs: -1, Ins: ends(1)}, false}, {api.Code{Regs: 256, Ins: ends(1)}, true}, {api.Code{Regs: 257, Ins: ends(1)}, false}, {api.Code{Regs: math.MinInt, Ins: ends(1)}, false}, {api.Code{Regs: math.MaxInt, Ins: ends(1)}, false}, {api.Code{Regs: 1 << 32, Ins: ends(1)}, false},
		{api.Code{Waits: make([]api.Wait, 250), Ins: ends(1)}, true}, {api.Code{Waits: make([]api.Wait, 251), Ins: ends(1)}, false},
		{api.Code{Ins: append(ends(3), api.Instr{Op: api.IGive})}, false}, {api.Code{Ins: append(ends(3), api.Instr{Op: api.IPay, S: "EUR"})}, false}, {api.Code{Ins: append([]api.Instr{{Op: api.IPay, S: "EUR"}}, ends(1)...)}, true},
		{api.Code{Ins: append([]api.Instr{{Op: api.IGo, To: 1}}, ends(1)...)}, true}, {api.Code{Ins: append([]api.Instr{{Op: api.IGo, To: 2}}, ends(1)...)}, false}, {api.Code{Ins: append([]api.Instr{{Op: api.IGo}}, ends(1)...)}, false},
		{api.Code{Ins: append([]api.Instr{{Op: api.IScale}}, ends(1)...)}, false}, {api.Code{Regs: 1, Ins: append([]api.Instr{{Op: api.IScale}}, ends(1)...)}, true},
		{api.Code{Regs: 256, Ins: append([]api.Instr{{Op: api.IAdd, A: 255, B: 255, C: 255}}, ends(1)...)}, true}, {api.Code{Regs: 256, Ins: append([]api.Instr{{Op: api.IAdd, A: 255, B: 256, C: 255}}, ends(1)...)}, false},
		{api.Code{Waits: []api.Wait{{}}, Ins: append([]api.Instr{{Op: api.ICall}}, ends(1)...)}, false}, {api.Code{Waits: []api.Wait{{Entry: 1}}, Ins: append([]api.Instr{{Op: api.ICall}}, ends(1)...)}, true}, {api.Code{Waits: []api.Wait{{}}, Ins: append([]api.Instr{{Op: api.IWait}}, ends(1)...)}, true},
	} {
		if right(test.c) != test.want {
			t.Errorf("%.600v", test.c)
		}
		judges(t, test.c, test.want)
	}
}

// code is a right bytecode by chance.
func (g grower) code() api.Code {
	size := 1 + g.Intn(30)
	c := api.Code{Regs: []int{0, 1, 3, 256}[g.Intn(4)]}
	for range g.Intn(5) {
		w := api.Wait{Entry: g.Intn(size), Day: g.day()}
		if g.Intn(2) == 0 {
			w.Label, w.First, w.Second = []string{"a", "ex", "if", "abcdefghijklmnopqrstuvwx"}[g.Intn(4)], g.Intn(size), g.Intn(size)
		}
		c.Waits = append(c.Waits, w)
	}
	c.Ins = ends(size)
	for at := 0; at < size-1; {
		i := api.Instr{Op: 1 + g.Intn(api.IEnd)}
		for _, field := range strings.Fields(table[i.Op]) {
			switch field {
			case "A":
				i.A = g.Intn(c.Regs + 1)
			case "B":
				i.B = g.Intn(c.Regs + 1)
			case "C":
				i.C = g.Intn(c.Regs + 1)
			case "N":
				i.N = g.any(0, 1, 2, 3660, 73048, g.number(), g.Int63n(73049))
			case "S":
				i.S = words[g.Intn(len(words))]
			case "To":
				i.To = at + 1 + g.Intn(size-at-1)
			}
		}
		c.Ins[at] = i
		if rightly(c, at) {
			at++
		}
	}
	return c
}

// spoilt is a bytecode one thing of which was changed.
func (g grower) spoilt(c api.Code) api.Code {
	out := api.Code{Regs: c.Regs, Waits: slices.Clone(c.Waits), Ins: slices.Clone(c.Ins)}
	n := int(g.any(-1, 0, 1, 2, 3, g.Int63n(40), 73049, math.MinInt64, math.MaxInt64))
	i := &out.Ins[g.Intn(len(out.Ins))]
	if len(out.Waits) > 0 && g.Intn(4) == 0 {
		w := &out.Waits[g.Intn(len(out.Waits))]
		for _, field := range []*int{&w.Entry, &w.Day, &w.First, &w.Second}[g.Intn(4):][:1] {
			*field = n
		}
		return out
	}
	switch g.Intn(6) {
	case 0:
		out.Regs = n
	case 1:
		out.Ins = out.Ins[:len(out.Ins)-1]
	case 2:
		i.S = words[g.Intn(len(words))]
	case 3:
		i.N = int64(n)
	default:
		for _, field := range []*int{&i.Op, &i.A, &i.B, &i.C, &i.To}[g.Intn(5):][:1] {
			*field = n
		}
	}
	return out
}

// P17.2: bytecodes by chance, and such of which one thing was changed.
func TestRight(t *testing.T) {
	g := newGrower(182)
	seen := map[bool]int{}
	for range 8000 {
		c := g.code()
		judges(t, c, true)
		d := g.spoilt(c)
		seen[right(d)]++
		judges(t, d, right(d))
	}
	if seen[true] < 1000 || seen[false] < 3000 {
		t.Error(seen)
	}
}
