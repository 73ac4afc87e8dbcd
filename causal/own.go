package causal

import "usance/api"

const codeLen = 3 // letters of a currency

// looks: does it look so many days back as its N says?
func looks(c api.Core) bool { return c.Op == api.OFeed || c.Op == api.ONow }

// isDated: is it a contract whose N is a day?
func isDated(c api.Core) bool {
	return c.Op == api.CAt || c.Op == api.CWhen || c.Op == api.CPick
}

// hasOwn: are a term's N and S such as its Op has?
func hasOwn(c api.Core) bool { return hasOwnN(c) && hasOwnS(c) }

func hasOwnN(c api.Core) bool {
	switch {
	case c.Op == api.ONum:
		return isWithin(c.N, -api.MaxNum, api.MaxNum)
	case c.Op == api.OBool:
		return isWithin(c.N, 0, 1)
	case c.Op == api.ODate || isDated(c):
		return isWithin(c.N, 0, api.MaxDay)
	case looks(c):
		return isWithin(c.N, -api.MaxLag, api.MaxLag)
	}
	return c.N == 0
}

func hasOwnS(c api.Core) bool {
	switch c.Op {
	case api.OFeed, api.CPick:
		return isName(c.S)
	case api.COne:
		return isCurrency(c.S)
	}
	return c.S == ""
}

func isWithin(n, least, most int64) bool { return least <= n && n <= most }

func isCurrency(s string) bool { return len(s) == codeLen && areAll(s, isCapital) }

// isName: are these a name's bytes, a keyword's or not?
func isName(s string) bool {
	return 0 < len(s) && len(s) <= api.MaxName && isLetter(s[0]) && areAll(s, isInName)
}

// areAll: are all its bytes of a sort?
func areAll(s string, sort func(byte) bool) bool {
	for i := range len(s) {
		if !sort(s[i]) {
			return false
		}
	}
	return true
}

func isLetter(c byte) bool { return 'a' <= c && c <= 'z' }

func isCapital(c byte) bool { return 'A' <= c && c <= 'Z' }

func isInName(c byte) bool { return isLetter(c) || '0' <= c && c <= '9' || c == '_' }
