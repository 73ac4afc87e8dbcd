package agenda

// node is a key between those ahead of it and those behind. Its kids' heights differ by one at most; what is changed is made anew, from the root down to it.
type node[K key[K]] struct {
	key           K
	height        int
	ahead, behind *node[K]
}

func grown[K key[K]](ahead *node[K], k K, behind *node[K]) *node[K] {
	return &node[K]{key: k, height: 1 + max(ahead.high(), behind.high()), ahead: ahead, behind: behind}
}

func (n *node[K]) high() int {
	if n == nil {
		return 0
	}
	return n.height
}

// level is what grown is, turned where one side has become higher by two.
func level[K key[K]](ahead *node[K], k K, behind *node[K]) *node[K] {
	switch d := ahead.high() - behind.high(); {
	case d > 1 && ahead.ahead.high() < ahead.behind.high():
		top := ahead.behind
		return grown(grown(ahead.ahead, ahead.key, top.ahead), top.key, grown(top.behind, k, behind))
	case d > 1:
		return grown(ahead.ahead, ahead.key, grown(ahead.behind, k, behind))
	case d < -1 && behind.behind.high() < behind.ahead.high():
		top := behind.ahead
		return grown(grown(ahead, k, top.ahead), top.key, grown(top.behind, behind.key, behind.behind))
	case d < -1:
		return grown(grown(ahead, k, behind.ahead), behind.key, behind.behind)
	}
	return grown(ahead, k, behind)
}

func (n *node[K]) with(k K) *node[K] {
	if n == nil {
		return grown(nil, k, nil)
	}
	switch c := k.compare(n.key); {
	case c < 0:
		return level(n.ahead.with(k), n.key, n.behind)
	case c > 0:
		return level(n.ahead, n.key, n.behind.with(k))
	}
	return n
}

func (n *node[K]) without(k K) *node[K] {
	if n == nil {
		return nil
	}
	switch c := k.compare(n.key); {
	case c < 0:
		return level(n.ahead.without(k), n.key, n.behind)
	case c > 0:
		return level(n.ahead, n.key, n.behind.without(k))
	case n.behind == nil:
		return n.ahead
	}
	next := n.behind.first()
	return level(n.ahead, next, n.behind.without(next))
}

func (n *node[K]) first() K {
	for n.ahead != nil {
		n = n.ahead
	}
	return n.key
}

// walk is false once it was left.
func (n *node[K]) walk(first K, yield func(K) bool) bool {
	for ; n != nil; n = n.behind {
		if n.key.compare(first) < 0 {
			continue
		}
		if !n.ahead.walk(first, yield) || !yield(n.key) {
			return false
		}
	}
	return true
}
