package syntax

import (
	"strings"

	"usance/api"
)

// kind is what the rows call a token.
type kind int

const (
	kindEnd  kind = iota // no token: the text's end
	kindWord             // a keyword or a sign
	kindName
	kindFar
	kindCurrency
	kindDate
	kindNumber
	kindString
)

// token is a token, or the end, of a text.
type token struct {
	kind kind
	text string // of a string the bytes between its quotes
	n    int64  // of a number its millionths, of a date its day
	at   int
	end  int // the place behind it
}

// is: is it one of these keywords and signs?
func (t token) is(words ...string) bool {
	if t.kind != kindWord {
		return false
	}
	for _, w := range words {
		if t.text == w {
			return true
		}
	}
	return false
}

// beginsExpr: may an expression begin with it?
func (t token) beginsExpr() bool {
	switch t.kind {
	case kindEnd, kindString:
		return false
	case kindWord:
		return t.is("if", "not", "-", "(", "true", "false", "feed", "pick")
	}
	return true
}

// parted is a text's tokens, and the end behind them.
func parted(s string) ([]token, fault) {
	if len(s) > api.MaxSource {
		return nil, fault{api.ErrSyntaxLong, 0}
	}
	find := anyToken(s)
	var out []token
	for at := skipped(s, 0); at < len(s); {
		t, e := find(at)
		if e == api.OK && len(out) == api.MaxTokens {
			e = api.ErrSyntaxMany
		}
		if e != api.OK {
			return nil, fault{e, at}
		}
		t.text = strings.Clone(t.text) // trees are to keep nothing of the text that was handed in
		out = append(out, t)
		at = skipped(s, t.end)
	}
	return append(out, token{kind: kindEnd, at: len(s), end: len(s)}), fault{}
}

// skipped is the place behind the blanks and remarks that stand at a place.
func skipped(s string, at int) int {
	for at < len(s) {
		switch {
		case isBlank(s[at]):
			at++
		case s[at] == '#':
			at = behind(s, at, isInLine)
		default:
			return at
		}
	}
	return at
}

// behind is the place behind all the bytes of a sort that stand from a place on.
func behind(s string, at int, sort func(byte) bool) int {
	for at < len(s) && sort(s[at]) {
		at++
	}
	return at
}

func isBlank(c byte) bool { return c <= ' ' }

func isInLine(c byte) bool { return c != '\n' }

func isInString(c byte) bool { return c != '"' && c != '\n' }

func isLetter(c byte) bool { return 'a' <= c && c <= 'z' }

func isCapital(c byte) bool { return 'A' <= c && c <= 'Z' }

func isDigit(c byte) bool { return '0' <= c && c <= '9' }

func isInName(c byte) bool { return isLetter(c) || isDigit(c) || c == '_' }

// isBadBehindDigits: may it not stand right behind a number or a date?
func isBadBehindDigits(c byte) bool {
	return isLetter(c) || isCapital(c) || c == '_' || c == '.'
}

// isName: are these a name's bytes, a keyword's or not?
func isName(s string) bool {
	return 0 < len(s) && len(s) <= api.MaxName && isLetter(s[0]) && behind(s, 0, isInName) == len(s)
}
