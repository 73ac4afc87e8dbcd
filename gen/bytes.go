package gen

import (
	"math"

	"usance/api"
	"usance/wire"
)

// Encode writes a bytecode, Decode reads one; with an error the place.
func Encode(c api.Code) ([]byte, api.Errno) {
	if !Right(c) {
		return nil, api.ErrGenForm
	}
	var w writer
	w.ints(c.Regs, len(c.Waits))
	for _, wait := range c.Waits {
		w.ints(wait.Entry, wait.Day)
		w.text(wait.Label)
		w.ints(wait.First, wait.Second)
	}
	w.ints(len(c.Ins))
	for _, i := range c.Ins {
		w.ints(i.Op, i.A, i.B, i.C)
		w.number(i.N)
		w.text(i.S)
		w.ints(i.To)
	}
	return w.bytes, api.OK
}

func Decode(b []byte) (api.Code, int, api.Errno) {
	r := reader{bytes: b}
	c := r.code()
	if r.failed || r.at < len(b) {
		return api.Code{}, r.at, api.ErrGenByte
	}
	if !Right(c) {
		return api.Code{}, 0, api.ErrGenForm
	}
	return c, 0, api.OK
}

// writer lays bytes of its own: each number, each text is put by itself, since wire copies what it is to go on from.
type writer struct{ bytes []byte }

func (w *writer) number(n int64) { w.bytes = append(w.bytes, wire.PutInt(nil, n)...) }

func (w *writer) ints(l ...int) {
	for _, n := range l {
		w.number(int64(n))
	}
}

func (w *writer) text(s string) { w.bytes = append(w.bytes, wire.PutText(nil, s)...) }

// reader reads what stands at a place, up to the first fault, where it stays: from there on what it answers means nothing.
type reader struct {
	bytes  []byte
	at     int
	failed bool
}

// goOn goes on behind what was read, if that stood there.
func (r *reader) goOn(behind int, stood bool) {
	r.failed = r.failed || !stood
	if !r.failed {
		r.at = behind
	}
}

func (r *reader) within(least, most int64) int64 {
	n, behind, ok := wire.TakeInt(r.bytes, r.at)
	r.goOn(behind, ok && least <= n && n <= most)
	return n
}

func (r *reader) number() int64 { return r.within(math.MinInt64, math.MaxInt64) }

func (r *reader) int() int { return int(r.number()) }

func (r *reader) count(most int64) int { return int(r.within(0, most)) }

func (r *reader) text() string {
	s, behind, ok := wire.TakeText(r.bytes, r.at, api.MaxName)
	r.goOn(behind, ok)
	return s
}

func (r *reader) code() api.Code {
	c := api.Code{Regs: r.int()}
	for left := r.count(api.MaxWaits); left > 0 && !r.failed; left-- {
		c.Waits = append(c.Waits, r.wait())
	}
	for left := r.count(api.MaxCode); left > 0 && !r.failed; left-- {
		c.Ins = append(c.Ins, r.instr())
	}
	return c
}

func (r *reader) wait() api.Wait {
	return api.Wait{Entry: r.int(), Day: r.int(), Label: r.text(), First: r.int(), Second: r.int()}
}

func (r *reader) instr() api.Instr {
	return api.Instr{Op: r.int(), A: r.int(), B: r.int(), C: r.int(), N: r.number(), S: r.text(), To: r.int()}
}
