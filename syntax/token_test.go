package syntax_test

import (
	"strconv"
	"strings"
	"testing"

	"usance/api"
	"usance/syntax"
)

// P7.1: wrong tokens, behind others that are right; ^ tells where they begin.
func TestWrongTokens(t *testing.T) {
	long := times(25, "a")
	for what, texts := range map[api.Errno][]string{
		api.ErrSyntaxByte: {
			"^?", "a ^?", "^.", "^.a", "a ^.b", "a.b^.c", "a.b^.", "^_", "^_a", "EUR^_", "EUR^.a", "^!", "^>", "a ^>= b", "^:", "^'a'", "^[", "^]", "^{", "^}", "^|", "^&", "^$", "^%", "^@", "^~", "^`", "^\\",
			"^\x7f", "^\x80", "^\xff", "a^\xff", "^\u00e4", "a^\u00e4", "1^\u00e4", "(^\u00a0)", "a^:", "1^:", "<^>", "a^!=b",
			"^\"", "^\"a", "feed ^\"eur", "feed ^\"eur\n\"", "^\"\n\"", "^\"A\n", "feed \"a\" ^\"", "\"a\"^\"", "^\"a # b", "^\"a\r\n\"",
		},
		api.ErrSyntaxNum: {
			"^1x", "^1X", "^1_", "^1.", "^1.x", "^1._", "^1..5", "^1.5.", "^1.5.5", "^1.5x", "^1.5X", "^1.5_", "1 + ^2x", "^0x1", "^1e3", "^1a.b", "^1EUR", "^1.\n5", "^1. 5",
			"^01", "^00", "^00.5", "^01.5", "2026 - ^01", "2026-^01", "2026-^01-1", "2026-10-1-^01", "1-^00", "^0000000001", "^10000000000", "^1000000001", "^1000000000.000001", "^9999999999", "^1.0000000", "^0.0000001",
			"^" + times(100, "9"), "^0." + times(100, "0"),
			"^2026-00-10", "^2026-13-10", "^2026-02-29", "^2026-10-00", "^2026-10-32", "^1899-12-31", "^2100-01-01", "^0000-00-00", "^9999-99-99", "-^2026-13-01", "a-^2026-02-30",
			"^2026-10-31x", "^2026-10-31X", "^2026-10-31_", "^2026-10-31.", "^2026-10-31.5", "^2026-10-31.x", "2026-^01-311", "12026-^01-31", "^2026-10-01x", "2026-10-^1x",
		},
		api.ErrSyntaxName: {
			"^" + long, "a + ^" + long, "^" + long + ".b", "^a." + long, "^" + long + "." + long, "^" + times(24, "a") + "_", "^a" + times(24, "9"), "^" + times(10000, "a"),
			"^a.", "^a.B", "^a.1", "^a._b", "^a. b", "^a..b", "^a.\n", "^a.(", "^a.\"b\"", "^a.-b", "f(^a., b)",
			"^if.a", "^a.if", "^if.then", "b + ^let.a",
			"^E", "^EU", "^EURO", "^EURUSD", "a ^EU", "a^EU", "^EUeur", "^EU1", "^EU_", "^EU.a", "^EURX.a", "^" + times(10000, "A"),
			"^\"\"", "feed ^\"\"", "^\"A\"", "^\"1\"", "^\"_a\"", "^\"a b\"", "^\" a\"", "^\"a \"", "^\"a.b\"", "^\"aB\"", "^\"a-b\"", "^\"a#b\"", "^\"a\x00\"", "^\"a\r\"", "^\"a\xff\"", "^\"\u00e4\"", "^\"" + long + "\"", "^\"a\\\"",
		},
	} {
		for _, s := range texts {
			ahead, behind, _ := strings.Cut(s, "^")
			for _, f := range []face{syntax.Expr, syntax.Module} {
				refused(t, f, ahead+behind, len(ahead), what)
				refused(t, f, " #?\n"+ahead+behind, len(ahead)+4, what)
				refused(t, f, ahead+behind+"\n? 01 EU", len(ahead), what)
				refused(t, f, ") "+ahead+behind, len(ahead)+2, what) // ahead of the rows
			}
		}
	}
}

// P7.1: of all bytes which ones begin a token, part tokens, or are wrong.
func TestBytes(t *testing.T) {
	for c := range 256 {
		s := "a " + string([]byte{byte(c)}) + " b"
		begins := strings.Contains(`(),;=<+-*/"`, s[2:3]) || '0' <= c && c <= '9' || 'a' <= c && c <= 'z' || 'A' <= c && c <= 'Z'
		_, at, e := syntax.Expr(s)
		switch {
		case c == '#':
			if at != 0 || e != api.OK {
				t.Errorf("%q: %d, %v", s, at, e)
			}
		case c <= ' ':
			if at != 4 || e != api.ErrSyntaxToken {
				t.Errorf("%q: %d, %v", s, at, e)
			}
		case begins == (e == api.ErrSyntaxByte && c != '"') || !begins && at != 2:
			t.Errorf("%q: %d, %v", s, at, e)
		}
	}
}

// P7.1: names of 24 bytes, and far names of two such parts, are right everywhere.
func TestLongNames(t *testing.T) {
	a, b := times(24, "z"), "a"+times(22, "_")+"9"
	reads(t, syntax.Expr, a, "Name "+a+" @0")
	reads(t, syntax.Expr, a+"."+b, "Name "+a+"."+b+" @0")
	reads(t, syntax.Expr, b+"."+a+"(1)", "Call "+b+"."+a+" @0 (Num 1000000 @50)")
	reads(t, syntax.Expr, `feed "`+b+`"`, "Feed "+b+" @0")
	reads(t, syntax.Module, "module "+a+"; import "+b+"; let "+a+"("+b+") = 1;",
		"Module "+a+" @0 (Import "+b+" @40, Let "+a+" @70 (Param "+b+" @95, Num 1000000 @123))")
}

// P7.1: each keyword is no name, and no part of a far name, but a string's bytes; with more behind it it is a name.
func TestKeywords(t *testing.T) {
	for _, w := range []string{"module", "import", "let", "if", "then", "else", "and", "or", "not", "true", "false", "feed", "pick"} {
		refused(t, syntax.Module, "module "+w+";", 7, api.ErrSyntaxToken)
		refused(t, syntax.Module, "module m; import "+w+";", 17, api.ErrSyntaxToken)
		refused(t, syntax.Module, "module m; let "+w+" = 1;", 14, api.ErrSyntaxToken)
		refused(t, syntax.Module, "module m; let a("+w+") = 1;", 16, api.ErrSyntaxToken)
		refused(t, syntax.Expr, w+".a", 0, api.ErrSyntaxName)
		refused(t, syntax.Expr, "a."+w, 0, api.ErrSyntaxName)
		refused(t, syntax.Expr, w+"."+w, 0, api.ErrSyntaxName)
		reads(t, syntax.Expr, `feed "`+w+`"`, "Feed "+w+" @0")
		reads(t, syntax.Expr, `pick "`+w+`"(a,b,c)`, "Pick "+w+" @0 (Name a @"+strconv.Itoa(len(w)+8)+", Name b @"+strconv.Itoa(len(w)+10)+", Name c @"+strconv.Itoa(len(w)+12)+")")
		for _, s := range []string{w + "s", w + "_", w + "0", "a" + w, w + w} {
			reads(t, syntax.Expr, s, "Name "+s+" @0")
			reads(t, syntax.Expr, s+"."+s, "Name "+s+"."+s+" @0")
		}
	}
	for _, w := range []string{"now", "zero", "one", "modules", "def", "in", "end", "when", "at"} {
		reads(t, syntax.Expr, w, "Name "+w+" @0")
		reads(t, syntax.Module, "module "+w+";", "Module "+w+" @0")
	}
}

// P7.1: 16384 bytes, and one more.
func TestLong(t *testing.T) {
	for _, c := range []string{" ", "\n", "\x00"} {
		reads(t, syntax.Expr, times(16383, c)+"a", "Name a @16383")
		reads(t, syntax.Expr, "a"+times(16383, c), "Name a @0")
		refused(t, syntax.Expr, times(16384, c), 16384, api.ErrSyntaxToken)
		refused(t, syntax.Expr, times(16384, c)+"a", 0, api.ErrSyntaxLong)
		refused(t, syntax.Expr, "a"+times(16384, c), 0, api.ErrSyntaxLong)
	}
	reads(t, syntax.Expr, "a#"+times(16382, "?"), "Name a @0")
	refused(t, syntax.Expr, "a#"+times(16383, "?"), 0, api.ErrSyntaxLong)
	for _, f := range []face{syntax.Expr, syntax.Module} {
		refused(t, f, times(16384, "?"), 0, api.ErrSyntaxByte)
		refused(t, f, times(16385, "?"), 0, api.ErrSyntaxLong)
		refused(t, f, "  "+times(16382, "?"), 2, api.ErrSyntaxByte)
		refused(t, f, times(16385, "("), 0, api.ErrSyntaxLong)
		refused(t, f, times(1<<20, "a "), 0, api.ErrSyntaxLong)
		refused(t, f, times(16383, " ")+"?", 16383, api.ErrSyntaxByte)
		refused(t, f, times(16383, " ")+"\"", 16383, api.ErrSyntaxByte)
		refused(t, f, times(16382, " ")+"1.", 16382, api.ErrSyntaxNum)
	}
	m := "module m;"
	reads(t, syntax.Module, m+times(16384-len(m), " "), "Module m @0")
	refused(t, syntax.Module, m+times(16385-len(m), " "), 0, api.ErrSyntaxLong)
}

// sumOf is a sum of so many ones.
func sumOf(n int) string { return "1" + times(n-1, "+1") }

// P7.1: 8192 tokens, and one more.
func TestManyTokens(t *testing.T) {
	s := "module m;" + times(40, "let a="+sumOf(100)+";") // 3 + 40 * 203
	last := "let a=" + sumOf(33) + ";"                    // 69 tokens
	n := right(t, syntax.Module, s+last)
	if len(n.Kids) != 41 {
		t.Error(len(n.Kids))
	}
	right(t, syntax.Module, s+last+" # more\n")
	refused(t, syntax.Module, s+last+" #?\n;", len(s+last)+4, api.ErrSyntaxMany)
	refused(t, syntax.Module, s+last+"let b=1;", len(s+last), api.ErrSyntaxMany)
	last = strings.Replace(last, "=", "=-", 1)
	refused(t, syntax.Module, s+last, len(s+last)-1, api.ErrSyntaxMany)
	refused(t, syntax.Module, s+last+"?", len(s+last)-1, api.ErrSyntaxMany)
	for _, f := range []face{syntax.Expr, syntax.Module} {
		refused(t, f, times(8192, ";"), 0, api.ErrSyntaxToken)
		refused(t, f, times(8193, ";"), 8192, api.ErrSyntaxMany)
		refused(t, f, times(8192, "; "), 0, api.ErrSyntaxToken)
		refused(t, f, times(8191, "; ")+";;", 16383, api.ErrSyntaxMany)
		refused(t, f, times(8191, "; ")+" ;;", 0, api.ErrSyntaxLong)
		refused(t, f, times(8193, "a<"), 0, api.ErrSyntaxLong)
		refused(t, f, times(4096, "a,")+"   b c", 8195, api.ErrSyntaxMany)
		refused(t, f, times(4096, "<=<")+"<=", 4096*3, api.ErrSyntaxMany)
		refused(t, f, times(8191, ";")+"?", 8191, api.ErrSyntaxByte)
		refused(t, f, times(8192, ";")+"?", 8192, api.ErrSyntaxByte) // no token, so none too much
		refused(t, f, times(8192, ";")+";?", 8192, api.ErrSyntaxMany)
		refused(t, f, times(100, ";")+"?"+times(8192, ";"), 100, api.ErrSyntaxByte)
	}
	refused(t, syntax.Expr, times(8192, "("), 300, api.ErrSyntaxNest)
	refused(t, syntax.Expr, times(8193, "("), 8192, api.ErrSyntaxMany)
}
