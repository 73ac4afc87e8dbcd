package syntax

import (
	"strings"

	"usance/api"
	"usance/date"
	"usance/num"
)

const (
	dateForm  = "0000-00-00" // how a date looks: each 0 is a digit
	byteSigns = "(),;=<+-*/" // signs of one byte
	longSign  = "<="
	codeLen   = 3 // letters of a currency
)

// finder tells which token begins at a place of its text, or what is wrong with it.
type finder func(at int) (token, api.Errno)

// keywords are the names that the rows keep for themselves.
func keywords() map[string]struct{} {
	return map[string]struct{}{
		"module": {}, "import": {}, "let": {}, "if": {}, "then": {}, "else": {}, "and": {}, "or": {}, "not": {},
		"true": {}, "false": {}, "feed": {}, "pick": {},
	}
}

// anyToken finds tokens of all kinds, which their first bytes tell apart.
func anyToken(s string) finder {
	name, currency, digits, quoted, sign := names(s), currencies(s), numbers(s), quotes(s), signs(s)
	return func(at int) (token, api.Errno) {
		switch c := s[at]; {
		case isLetter(c):
			return name(at)
		case isCapital(c):
			return currency(at)
		case isDigit(c):
			return digits(at)
		case c == '"':
			return quoted(at)
		}
		return sign(at)
	}
}

// names finds names, far names and keywords.
func names(s string) finder {
	words := keywords()
	isWord := func(part string) bool {
		_, is := words[part]
		return is
	}
	isFree := func(part string) bool { return isName(part) && !isWord(part) }
	far := func(at, point int) (token, api.Errno) {
		end := behind(s, point+1, isInName)
		if !isFree(s[at:point]) || !isFree(s[point+1:end]) {
			return token{}, api.ErrSyntaxName
		}
		return token{kind: kindFar, text: s[at:end], at: at, end: end}, api.OK
	}
	return func(at int) (token, api.Errno) {
		end := behind(s, at, isInName)
		if end < len(s) && s[end] == '.' {
			return far(at, end)
		}
		t := token{kind: kindName, text: s[at:end], at: at, end: end}
		if !isName(t.text) {
			return token{}, api.ErrSyntaxName
		}
		if isWord(t.text) {
			t.kind = kindWord
		}
		return t, api.OK
	}
}

// currencies finds currencies.
func currencies(s string) finder {
	return func(at int) (token, api.Errno) {
		end := behind(s, at, isCapital)
		if end-at != codeLen {
			return token{}, api.ErrSyntaxName
		}
		return token{kind: kindCurrency, text: s[at:end], at: at, end: end}, api.OK
	}
}

// numbers finds numbers and dates.
func numbers(s string) finder {
	return func(at int) (token, api.Errno) {
		t, right := numberToken(s, at)
		if looksLikeDate(s[at:]) {
			t, right = dateToken(s, at)
		}
		if !right || t.end < len(s) && isBadBehindDigits(s[t.end]) {
			return token{}, api.ErrSyntaxNum
		}
		return t, api.OK
	}
}

// quotes finds strings.
func quotes(s string) finder {
	return func(at int) (token, api.Errno) {
		second := behind(s, at+1, isInString)
		if second == len(s) || s[second] != '"' {
			return token{}, api.ErrSyntaxByte
		}
		text := s[at+1 : second]
		if !isName(text) {
			return token{}, api.ErrSyntaxName
		}
		return token{kind: kindString, text: text, at: at, end: second + 1}, api.OK
	}
}

// signs finds signs.
func signs(s string) finder {
	return func(at int) (token, api.Errno) {
		end := at + 1
		if strings.HasPrefix(s[at:], longSign) {
			end = at + len(longSign)
		} else if strings.IndexByte(byteSigns, s[at]) < 0 {
			return token{}, api.ErrSyntaxByte
		}
		return token{kind: kindWord, text: s[at:end], at: at, end: end}, api.OK
	}
}

// numberToken is the number whose digits begin at a place; is it one?
func numberToken(s string, at int) (token, bool) {
	end := behind(s, at, isDigit)
	if places := behind(s, end+1, isDigit); places > end+1 && s[end] == '.' {
		end = places
	}
	n, right := num.Parse(s[at:end])
	return token{kind: kindNumber, n: n, at: at, end: end}, right
}

// dateToken is the date whose form begins at a place; is it one?
func dateToken(s string, at int) (token, bool) {
	end := at + len(dateForm)
	day, e := date.Parse(s[at:end])
	return token{kind: kindDate, n: int64(day), at: at, end: end}, e == api.OK
}

// looksLikeDate: does it begin with as many digits and signs as a date has, be there such a day or not?
func looksLikeDate(s string) bool {
	if len(s) < len(dateForm) || len(s) > len(dateForm) && isDigit(s[len(dateForm)]) {
		return false
	}
	for i := range len(dateForm) {
		if isDigit(s[i]) != isDigit(dateForm[i]) || !isDigit(s[i]) && s[i] != dateForm[i] {
			return false
		}
	}
	return true
}
