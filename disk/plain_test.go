package disk_test

import (
	"bytes"
	"math/rand"
	"slices"
	"testing"

	"usance/api"
	"usance/disk"
)

// plain is what the document says of a disk, by the list of all that was done on it.
type plain struct {
	sectors int
	done    []act
	cut     int
	gone    bool
}

// act is a Write, a Flush or a Poke that was done.
type act struct {
	kind  byte // w f p
	at    int
	place int
	bytes []byte
}

func (p *plain) ops() int {
	n := 0
	for _, a := range p.done {
		if a.kind != 'p' {
			n++
		}
	}
	return n
}

// flushed is how many acts stand ahead of the last Flush's end.
func (p *plain) flushed() int {
	for i := len(p.done); i > 0; i-- {
		if p.done[i-1].kind == 'f' {
			return i
		}
	}
	return 0
}

func (p *plain) loose() int {
	n := 0
	for _, a := range p.done[p.flushed():] {
		if a.kind == 'w' {
			n++
		}
	}
	return n
}

// left is the sectors, without the loose writes for which stays says no; a Poke turns all that is there when it comes, a write that is left out hides nothing.
func (p *plain) left(stays func(n int) bool) [][]byte {
	out := make([][]byte, p.sectors)
	for i := range out {
		out[i] = make([]byte, api.Sector)
	}
	n, from := 0, p.flushed()
	for i, a := range p.done {
		switch {
		case a.kind == 'p':
			out[a.at][a.place] = a.bytes[0]
		case a.kind == 'w' && i >= from:
			if stays(n) {
				copy(out[a.at], a.bytes)
			}
			n++
		case a.kind == 'w':
			copy(out[a.at], a.bytes)
		}
	}
	return out
}

// off: does an operation find the power gone?
func (p *plain) off() bool {
	if p.cut >= 0 && p.ops() >= p.cut {
		p.gone = true
	}
	return p.gone
}

func (p *plain) write(at int, b []byte) api.Errno {
	switch {
	case p.off():
		return api.ErrDiskOff
	case at < 0 || at >= p.sectors:
		return api.ErrDiskAt
	case len(b) != 128:
		return api.ErrDiskLen
	}
	p.done = append(p.done, act{kind: 'w', at: at, bytes: slices.Clone(b)})
	return api.OK
}

func (p *plain) flush() api.Errno {
	if p.off() {
		return api.ErrDiskOff
	}
	p.done = append(p.done, act{kind: 'f'})
	return api.OK
}

func (p *plain) poke(at, place int, b byte) api.Errno {
	switch {
	case at < 0 || at >= p.sectors:
		return api.ErrDiskAt
	case place < 0 || place >= 128:
		return api.ErrArg
	}
	p.done = append(p.done, act{kind: 'p', at: at, place: place, bytes: []byte{b}})
	return api.OK
}

// sees checks all that can be read of a disk.
func sees(t *testing.T, d *disk.Disk, want [][]byte) {
	t.Helper()
	for at, w := range want {
		if b, e := d.Read(at); e != api.OK || !bytes.Equal(b, w) {
			t.Fatalf("Read(%d): %q, %v, want %q", at, b, e, w)
		}
	}
}

// someStay is numbers of loose writes in no order, some twice, some of none.
func someStay(r *rand.Rand, loose int) []int {
	var out []int
	for n := range loose {
		for r.Intn(2) == 0 {
			out = append(out, n)
		}
	}
	if r.Intn(3) == 0 {
		out = append(out, -1-r.Intn(3), loose+r.Intn(3))
	}
	r.Shuffle(len(out), func(i, j int) { out[i], out[j] = out[j], out[i] })
	return out
}

// someBytes is a sector's bytes, sometimes one more or less.
func someBytes(r *rand.Rand) []byte {
	b := make([]byte, 128)
	if r.Intn(8) == 0 {
		b = make([]byte, 127+2*r.Intn(2))
	}
	r.Read(b)
	return b
}

// P4.1 to P4.4: many scripts, each held against the list of what was done.
func TestScripts(t *testing.T) {
	for seed := range 300 {
		r := rand.New(rand.NewSource(int64(seed)))
		p := &plain{sectors: 1 + r.Intn(4), cut: -1}
		d := mustNew(t, p.sectors)
		for range 60 {
			step(t, r, d, p)
		}
	}
}

func step(t *testing.T, r *rand.Rand, d *disk.Disk, p *plain) {
	t.Helper()
	at := r.Intn(p.sectors+2) - 1
	var got, want api.Errno
	switch r.Intn(12) {
	case 0, 1, 2, 3, 4, 5:
		b := someBytes(r)
		got, want = d.Write(at, b), p.write(at, b)
		r.Read(b)
	case 6:
		got, want = d.Flush(), p.flush()
	case 7, 8:
		place, b := r.Intn(130)-1, byte(r.Intn(256))
		got, want = d.Poke(at, place, b), p.poke(at, place, b)
	case 9:
		p.cut, p.gone = p.ops()+r.Intn(8)-2, false
		d.CutAt(p.cut)
	default:
		p.cut, p.gone = -1, false
		d.CutAt(-1)
	}
	if got != want || d.Ops() != p.ops() || d.Loose() != p.loose() {
		t.Fatalf("%v, %d, %d, want %v, %d, %d", got, d.Ops(), d.Loose(), want, p.ops(), p.loose())
	}
	if p.gone {
		if _, e := d.Read(0); e != api.ErrDiskOff {
			t.Fatalf("Read without power: %v", e)
		}
	} else {
		sees(t, d, p.left(func(int) bool { return true }))
	}
	stay := someStay(r, p.loose())
	sees(t, d.Crash(stay), p.left(func(n int) bool { return slices.Contains(stay, n) }))
	follows(t, d, p, stay)
}

// follows checks what follows of a crash: with all numbers all is as it is; else each sector is as it was flushed, or as that one write laid it which is the last of those that stay, alone.
func follows(t *testing.T, d *disk.Disk, p *plain, stay []int) {
	t.Helper()
	all := make([]int, d.Loose())
	for n := range all {
		all[n] = n
	}
	sees(t, d.Crash(all), p.left(func(int) bool { return true }))
	z := d.Crash(stay)
	for at := range p.sectors {
		last := p.lastOf(at, stay)
		want := p.left(func(n int) bool { return n == last })[at]
		if got, e := z.Read(at); e != api.OK || !bytes.Equal(got, want) {
			t.Fatalf("sector %d of Crash(%v): %q, %v, want %q", at, stay, got, e, want)
		}
	}
}

// lastOf is the number of the last loose write of a sector that stays, -1 if none does.
func (p *plain) lastOf(at int, stay []int) int {
	n, last := 0, -1
	for _, a := range p.done[p.flushed():] {
		if a.kind != 'w' {
			continue
		}
		if a.at == at && slices.Contains(stay, n) {
			last = n
		}
		n++
	}
	return last
}
