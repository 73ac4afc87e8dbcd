package infer

import (
	"strings"

	"usance/api"
)

const codeLen = 3 // letters of a currency

// hasOwn: are an expression's Text and N such as its Kind has?
func hasOwn(n api.Node) bool {
	switch n.Kind {
	case api.NNum:
		return n.Text == "" && isUpTo(n.N, api.MaxNum)
	case api.NDate:
		return n.Text == "" && isUpTo(n.N, api.MaxDay)
	case api.NBool:
		return n.Text == "" && isUpTo(n.N, 1)
	}
	return n.N == 0 && hasOwnText(n)
}

// hasOwnText: is the Text such as the Kind, of those that have no N, has?
func hasOwnText(n api.Node) bool {
	switch n.Kind {
	case api.NCur:
		return isCurrency(n.Text)
	case api.NFeed, api.NPick:
		return isName(n.Text)
	case api.NName, api.NCall:
		return isNearOrFar(n.Text)
	case api.NUnary:
		return isOneOf(n.Text, "-", "not")
	case api.NBinary:
		return isOneOf(n.Text, "or", "and", "<", "<=", "=", "+", "-", "*", "/")
	case api.NIf:
		return n.Text == ""
	}
	return false
}

// hasKids: are there as many kids as an expression's Kind has?
func hasKids(n api.Node) bool {
	least, most := 0, 0
	switch n.Kind {
	case api.NUnary:
		least, most = 1, 1
	case api.NBinary:
		least, most = 2, 2
	case api.NIf, api.NPick:
		least, most = 3, 3
	case api.NCall:
		least, most = 1, api.MaxParams
	}
	return least <= len(n.Kids) && len(n.Kids) <= most
}

func isUpTo(n, most int64) bool { return 0 <= n && n <= most }

func isOneOf(s string, words ...string) bool {
	for _, w := range words {
		if s == w {
			return true
		}
	}
	return false
}

func isCurrency(s string) bool { return len(s) == codeLen && areAll(s, isCapital) }

// isNearOrFar: is it a name or a far name, with no keyword in it?
func isNearOrFar(s string) bool {
	first, second, far := strings.Cut(s, ".")
	return isFree(first) && (!far || isFree(second))
}

// isFree: is it a name that is no keyword?
func isFree(s string) bool {
	return isName(s) && !isOneOf(s, "module", "import", "let", "if", "then", "else", "and", "or", "not", "true", "false", "feed", "pick")
}

// isName: are these a name's bytes, a keyword's or not?
func isName(s string) bool {
	return 0 < len(s) && len(s) <= api.MaxName && isLetter(s[0]) && areAll(s, isInName)
}

// areAll: are all its bytes of a sort?
func areAll(s string, sort func(byte) bool) bool {
	for i := range len(s) {
		if !sort(s[i]) {
			return false
		}
	}
	return true
}

func isLetter(c byte) bool { return 'a' <= c && c <= 'z' }

func isCapital(c byte) bool { return 'A' <= c && c <= 'Z' }

func isInName(c byte) bool { return isLetter(c) || '0' <= c && c <= '9' || c == '_' }
