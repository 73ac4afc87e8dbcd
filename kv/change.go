package kv

import "usance/api"

// look reads what the pairs weigh, and how many Commits there were, if all that lies in the pages is a store's.
func (s *Store) look() api.Errno {
	if e := s.t.Sound(); e != api.OK {
		return own(e)
	}
	said, _, e := s.t.Get(markKey)
	if e != api.OK {
		return own(e)
	}
	seq, marked := seqOf(said)
	found, whole := sizes(s.t.Range(behindMark, ""))
	s.seq, s.held = seq, weights{bytes: make(map[name]int)}
	for n, bytes := range found {
		s.held.keep(n, bytes)
	}
	if !marked || !whole || s.held.sum > s.most {
		return api.ErrKvCorrupt
	}
	return api.OK
}

// whole is a pair's value, which begins with its first piece. (It ends, whatever lies there, since no value is longer than it may be.)
func (s *Store) whole(n name, first string) (string, api.Errno) {
	val, last := first, first
	for len(last) == pieceBytes {
		next, is, e := s.t.Get(n.piece(len(val) / pieceBytes))
		if e != api.OK {
			return "", own(e)
		}
		if !is || len(val)+len(next) > api.MaxValue {
			return "", api.ErrKvCorrupt
		}
		val, last = val+next, next
	}
	return val, api.OK
}

// change does puts, each of another pair. What goes is taken first: so the tree never weighs more than it did, or will, and there are pages enough for what the limit allows.
func (s *Store) change(puts []api.Put) api.Errno {
	for _, p := range puts {
		if e := s.take(nameOf(p)); e != api.OK {
			return e
		}
	}
	for _, p := range puts {
		if p.Gone {
			continue
		}
		if e := s.lay(nameOf(p), p.Val); e != api.OK {
			return e
		}
	}
	return s.letStay(s.seq + 1)
}

// take takes a pair's pieces away, if it is there.
func (s *Store) take(n name) api.Errno {
	bytes, has := s.held.bytes[n]
	if !has {
		return api.OK
	}
	for at := range pieces(bytes) {
		had, e := s.t.Delete(n.piece(at))
		if e != api.OK {
			return e
		}
		if !had {
			return api.ErrKvCorrupt
		}
	}
	return api.OK
}

// lay lays a pair's pieces.
func (s *Store) lay(n name, val string) api.Errno {
	for at := range pieces(len(val)) {
		part := val[at*pieceBytes : min((at+1)*pieceBytes, len(val))]
		if e := s.t.Put(n.piece(at), part); e != api.OK {
			return e
		}
	}
	return api.OK
}

// letStay lets the change last, with a mark of so many Commits: so there is always one, even if its puts come to what was there.
func (s *Store) letStay(seq int64) api.Errno {
	if e := s.t.Put(markKey, mark(seq)); e != api.OK {
		return e
	}
	return s.p.Commit()
}
