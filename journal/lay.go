package journal

import "usance/api"

// markAt is where a write's mark stands: never where that of the one ahead of it does.
func markAt(seq int64) int { return int(seq & 1) }

func noteAt(i int) int { return markCount + i }

func (j *Journal) blockAt(i int) int { return markCount + j.blocks + i }

// told keeps what the disk answers: behind an error the journal is off.
func (j *Journal) told(e api.Errno) api.Errno {
	j.off = e
	return e
}

func (j *Journal) get(sector int) (frame, api.Errno) {
	b, e := j.d.Read(sector)
	if e != api.OK {
		return frame{}, j.told(e)
	}
	return frame(b), api.OK
}

func (j *Journal) put(sector int, f frame) api.Errno {
	return j.told(j.d.Write(sector, f[:]))
}

func (j *Journal) flush() api.Errno {
	return j.told(j.d.Flush())
}

// commit does a write. A crash ahead of the mark's Flush may undo it; behind that one its notes are laid again, till the Flush at the end lets the next write have their places.
func (j *Journal) commit(done head, notes []note) api.Errno {
	for i := range len(notes) {
		if e := j.put(noteAt(i), notes[i].laid); e != api.OK {
			return e
		}
	}
	if e := j.flush(); e != api.OK {
		return e
	}
	if e := j.put(markAt(done.seq), framed(markKind, nil, done)); e != api.OK {
		return e
	}
	if e := j.flush(); e != api.OK {
		return e
	}
	return j.lay(notes)
}

// lay lets blocks be as notes have them, for good.
func (j *Journal) lay(notes []note) api.Errno {
	for i := range len(notes) {
		if e := j.put(j.blockAt(notes[i].at), notes[i].laid); e != api.OK {
			return e
		}
	}
	return j.flush()
}

// lastMark is the later one of the two marks. A crash leaves both of them, so one alone is corrupt; without any there is no journal.
func (j *Journal) lastMark() (head, api.Errno) {
	var marks [markCount]frame
	for i := range markCount {
		f, e := j.get(i)
		if e != api.OK {
			return head{}, e
		}
		marks[i] = f
	}
	a, first := marks[0].head(markKind)
	b, second := marks[1].head(markKind)
	switch {
	case !first && !second:
		return head{}, api.ErrJournalForm
	case !first || !second || !neighbours(a.seq, b.seq):
		return head{}, api.ErrJournalCorrupt
	case a.seq > b.seq:
		return a, api.OK
	}
	return b, api.OK
}

// neighbours: does one follow the other?
func neighbours(a, b int64) bool {
	return a == b+1 || b == a+1
}

// notesOf is the notes of a write that still lie there. Where one of the next write has taken a place, all blocks of this one were laid ahead of that.
func (j *Journal) notesOf(last head) ([]note, api.Errno) {
	var notes []note
	for i := range j.blocks {
		f, e := j.get(noteAt(i))
		if e != api.OK {
			return nil, e
		}
		h, ok := f.head(blockKind)
		switch {
		case !ok || !j.has(h.number):
			return nil, api.ErrJournalCorrupt
		case i >= last.number: // of an earlier write, or of one that was not done
		case h.seq == last.seq:
			notes = append(notes, note{at: h.number, laid: f})
		case h.seq != last.seq+1:
			return nil, api.ErrJournalCorrupt
		}
	}
	return notes, api.OK
}

// block is a block's frame as it lies there, if a crash may leave it so.
func (j *Journal) block(at int) (frame, api.Errno) {
	f, e := j.get(j.blockAt(at))
	if e != api.OK {
		return frame{}, e
	}
	if h, ok := f.head(blockKind); !ok || h.number != at {
		return frame{}, api.ErrJournalCorrupt
	}
	return f, api.OK
}

// missing is those notes whose blocks are not laid yet; it looks at all blocks, so that Open tells what no crash leaves.
func (j *Journal) missing(notes []note) ([]note, api.Errno) {
	blocks := make([]frame, j.blocks)
	for at := range j.blocks {
		f, e := j.block(at)
		if e != api.OK {
			return nil, e
		}
		blocks[at] = f
	}
	var out []note
	for i := range len(notes) {
		if blocks[notes[i].at] != notes[i].laid {
			out = append(out, notes[i])
		}
	}
	return out, api.OK
}

// mend lets all last that was read as done, ahead of what is built on it: a disk that goes on without a crash may still hold loose writes.
func (j *Journal) mend(missing []note) api.Errno {
	if j.d.Loose() > 0 {
		if e := j.flush(); e != api.OK {
			return e
		}
	}
	if len(missing) == 0 {
		return api.OK
	}
	return j.lay(missing)
}
