package syntax_test

import (
	"math/rand"
	"regexp"
	"strings"
	"testing"

	"usance/api"
	"usance/date"
	"usance/num"
	"usance/syntax"
)

// piece is a token by the model: what the rows call it, and where it stands.
type piece struct {
	class    string
	at, past int
}

// lexer parts texts by patterns, as the chapter tells tokens.
type lexer struct {
	skip, name, capitals, date, number, quoted, sign, keyword, bad, whole *regexp.Regexp
}

func newLexer() lexer {
	p := func(s string) *regexp.Regexp { return regexp.MustCompile(`(?s)^(?:` + s + `)`) }
	return lexer{
		skip: p(`(?:[\x00-\x20]|#[^\n]*)*`), name: p(`[a-z][a-z0-9_]*(?:\.[a-z0-9_]*)?`), capitals: p(`[A-Z]+`),
		date: p(`(\d{4}-\d\d-\d\d)(?:[^0-9]|$)`), number: p(`\d+(?:\.\d+)?`), quoted: p(`"[^"\n]*"`), sign: p(`<=|[(),;=<+*/-]`),
		keyword: p(`(?:module|import|let|if|then|else|and|or|not|true|false|feed|pick)$`), bad: p(`[a-zA-Z_.]`), whole: p(`[a-z][a-z0-9_]{0,23}$`),
	}
}

// next is the token at the beginning of a text: its class and length, or an error.
func (l lexer) next(s string) (string, int, api.Errno) {
	isName := l.whole.MatchString
	if t := l.name.FindString(s); t != "" {
		first, second, far := strings.Cut(t, ".")
		switch {
		case !isName(first), far && (!isName(second) || l.keyword.MatchString(first) || l.keyword.MatchString(second)):
			return "", 0, api.ErrSyntaxName
		case far:
			return "FARNAME", len(t), api.OK
		case l.keyword.MatchString(t):
			return t, len(t), api.OK
		}
		return "NAME", len(t), api.OK
	}
	if t := l.capitals.FindString(s); t != "" {
		if len(t) != 3 {
			return "", 0, api.ErrSyntaxName
		}
		return "CURRENCY", len(t), api.OK
	}
	if t := l.date.FindStringSubmatch(s); t != nil {
		if _, e := date.Parse(t[1]); e != api.OK || l.bad.MatchString(s[10:]) {
			return "", 0, api.ErrSyntaxNum
		}
		return "DATE", 10, api.OK
	}
	if t := l.number.FindString(s); t != "" {
		if _, ok := num.Parse(t); !ok || l.bad.MatchString(s[len(t):]) {
			return "", 0, api.ErrSyntaxNum
		}
		return "NUMBER", len(t), api.OK
	}
	if t := l.quoted.FindString(s); t != "" {
		if !isName(t[1 : len(t)-1]) {
			return "", 0, api.ErrSyntaxName
		}
		return "STRING", len(t), api.OK
	}
	t := l.sign.FindString(s)
	if t == "" {
		return "", 0, api.ErrSyntaxByte
	}
	return t, len(t), api.OK
}

// part is all tokens of a text, or the first fault.
func (l lexer) part(s string) ([]piece, int, api.Errno) {
	var out []piece
	at := len(l.skip.FindString(s))
	for at < len(s) {
		class, size, e := l.next(s[at:])
		if e != api.OK {
			return nil, at, e
		}
		out = append(out, piece{class, at, at + size})
		at += size
		at += len(l.skip.FindString(s[at:]))
	}
	return out, 0, api.OK
}

// grammar is the chapter's rows, without brackets and braces: what stands for a row may be any of the lists.
func grammar() map[string][][]string {
	out := map[string][][]string{}
	for _, line := range []string{
		"Module = module NAME ; Imports Lets", "Imports =", "Imports = import NAME ; Imports", "Lets =", "Lets = Let Lets",
		"Let = let NAME Params = Expr ;", "Params =", "Params = ( NAME More )", "More =", "More = , NAME More",
		"Expr = if Expr then Expr else Expr", "Expr = Or", "Or = And", "Or = Or or And", "And = Not", "And = And and Not", "Not = not Not", "Not = Rel",
		"Rel = Sum", "Rel = Sum < Sum", "Rel = Sum <= Sum", "Rel = Sum = Sum", "Sum = Prod", "Sum = Sum + Prod", "Sum = Sum - Prod",
		"Prod = Unary", "Prod = Prod * Unary", "Prod = Prod / Unary", "Unary = - Unary", "Unary = Atom",
		"Atom = NUMBER", "Atom = DATE", "Atom = CURRENCY", "Atom = true", "Atom = false", "Atom = feed STRING", "Atom = pick STRING ( Expr , Expr , Expr )",
		"Atom = NAME", "Atom = FARNAME", "Atom = NAME ( Args )", "Atom = FARNAME ( Args )", "Args = Expr", "Args = Args , Expr", "Atom = ( Expr )",
	} {
		row, list, _ := strings.Cut(line, " =")
		out[row] = append(out[row], strings.Fields(list))
	}
	return out
}

// item is a list of a row, how much of it was read, and since which token (Earley's way).
type item struct {
	row               string
	list, dot, origin int
}

// wrongAt is the first token with which nothing that a row may be goes on; how many there are, if it isn't a whole one; -1, if it is.
func wrongAt(rules map[string][][]string, row string, pieces []piece) int {
	sets := [][]item{nil}
	add := func(k int, x item) {
		for _, y := range sets[k] {
			if x == y {
				return
			}
		}
		sets[k] = append(sets[k], x)
	}
	for i := range rules[row] {
		add(0, item{row, i, 0, 0})
	}
	for k := 0; ; k++ {
		whole := false
		sets = append(sets, nil)
		for i := 0; i < len(sets[k]); i++ {
			x := sets[k][i]
			list := rules[x.row][x.list]
			switch {
			case x.dot < len(list) && rules[list[x.dot]] != nil:
				for j := range rules[list[x.dot]] {
					add(k, item{list[x.dot], j, 0, k})
					if len(rules[list[x.dot]][j]) == 0 { // an empty row is read at once
						add(k, item{x.row, x.list, x.dot + 1, x.origin})
					}
				}
			case x.dot < len(list):
				if k < len(pieces) && pieces[k].class == list[x.dot] {
					add(k+1, item{x.row, x.list, x.dot + 1, x.origin})
				}
			default:
				whole = whole || x.row == row && x.origin == 0
				for _, y := range sets[x.origin] {
					l := rules[y.row][y.list]
					if y.dot < len(l) && l[y.dot] == x.row {
						add(k, item{y.row, y.list, y.dot + 1, y.origin})
					}
				}
			}
		}
		if k == len(pieces) {
			if whole {
				return -1
			}
			return k
		}
		if len(sets[k+1]) == 0 {
			return k
		}
	}
}

// judge is the place and the error that the model answers.
func judge(l lexer, rules map[string][][]string, row, s string) (int, api.Errno) {
	pieces, at, e := l.part(s)
	if e != api.OK {
		return at, e
	}
	switch i := wrongAt(rules, row, pieces); i {
	case -1:
		return 0, api.OK
	case len(pieces):
		return len(s), api.ErrSyntaxToken
	default:
		return pieces[i].at, api.ErrSyntaxToken
	}
}

// P7.1, P7.2: texts of pieces by chance, held against patterns and rows; no panic (R1).
func TestAnyTexts(t *testing.T) {
	pieces := strings.Split("a b.c a . _ if then else and or not true false feed pick module import let 1 0 7.5 1. 01 2026 - - 10 31 2026-10-31 2026-13-01 E EUR \"a\" \"if\" \" # \n \xff ( ) , ; = < <= + * / ? x f( module\tm; let\ta= import\tb; if\ta\tthen feed\t\"a\" pick\t\"a\"(", " ")
	pieces = append(pieces, " ", " ", "  ")
	l, rules, r := newLexer(), grammar(), rand.New(rand.NewSource(7))
	seen := map[api.Errno]int{}
	for range 15000 {
		var s string
		for range r.Intn(12) {
			s += pieces[r.Intn(len(pieces))]
			if r.Intn(2) == 0 {
				s += " "
			}
		}
		for row, f := range map[string]face{"Module": syntax.Module, "Expr": syntax.Expr} {
			wantAt, want := judge(l, rules, row, s)
			n, at, e := f(s)
			if at != wantAt || e != want || (e == api.OK) != (n.Kind != 0) {
				t.Fatalf("%s %q: %d, %v, want %d, %v", row, s, at, e, wantAt, want)
			}
			seen[e]++
		}
	}
	for _, e := range []api.Errno{api.OK, api.ErrSyntaxByte, api.ErrSyntaxNum, api.ErrSyntaxName, api.ErrSyntaxToken} {
		if seen[e] < 50 {
			t.Errorf("%v: but %d texts", e, seen[e])
		}
	}
}

// P7.1, P7.2: any bytes (R1).
func TestAnyBytes(t *testing.T) {
	l, rules, r := newLexer(), grammar(), rand.New(rand.NewSource(8))
	for i := range 15000 {
		b := make([]byte, r.Intn(8))
		r.Read(b)
		if i%2 == 0 { // those that may begin a token
			for j := range b {
				b[j] = "az09AZ_.-\"#\n ()<=,;+*/"[int(b[j])%22]
			}
		}
		s := string(b)
		wantAt, want := judge(l, rules, "Expr", s)
		if _, at, e := syntax.Expr(s); at != wantAt || e != want {
			t.Fatalf("%q: %d, %v, want %d, %v", s, at, e, wantAt, want)
		}
	}
}
