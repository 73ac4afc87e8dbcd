package syntax_test

import (
	"strconv"
	"strings"
	"testing"

	"usance/api"
	"usance/syntax"
)

// face is one of the two calls.
type face func(string) (api.Node, int, api.Errno)

// told writes a node with all its fields: its kind, Text and N, unless they are zero, @ and At, and its kids.
func told(n api.Node) string {
	kinds := []string{"?", "Module", "Import", "Let", "Param", "Num", "Date", "Cur", "Bool", "Feed", "Name", "Call", "Unary", "Binary", "If", "Pick"}
	s := kinds[n.Kind]
	if n.Text != "" {
		s += " " + n.Text
	}
	if n.N != 0 {
		s += " " + strconv.FormatInt(n.N, 10)
	}
	s += " @" + strconv.Itoa(n.At)
	if len(n.Kids) == 0 {
		return s
	}
	var kids []string
	for _, k := range n.Kids {
		kids = append(kids, told(k))
	}
	return s + " (" + strings.Join(kids, ", ") + ")"
}

// moved is a tree whose places are further behind.
func moved(n api.Node, by int) api.Node {
	n.At += by
	n.Kids = append([]api.Node(nil), n.Kids...)
	for i := range n.Kids {
		n.Kids[i] = moved(n.Kids[i], by)
	}
	return n
}

// placeless is a tree all of whose places are 0.
func placeless(n api.Node) api.Node {
	n.At = 0
	n.Kids = append([]api.Node(nil), n.Kids...)
	for i := range n.Kids {
		n.Kids[i] = placeless(n.Kids[i])
	}
	return n
}

// depth is a tree's depth, by the chapter's words.
func depth(n api.Node) int {
	deepest := 0
	for _, k := range n.Kids {
		deepest = max(deepest, depth(k))
	}
	return 1 + deepest
}

// reads checks that a text is read as a tree.
func reads(t *testing.T, f face, s, want string) {
	t.Helper()
	n, at, e := f(s)
	if e != api.OK || at != 0 || told(n) != want {
		t.Errorf("%.80q: %s, %d, %v, want %s", s, told(n), at, e, want)
	}
}

// right checks that a text is read, and answers its tree.
func right(t *testing.T, f face, s string) api.Node {
	t.Helper()
	n, at, e := f(s)
	if e != api.OK || at != 0 {
		t.Fatalf("%.80q: %d, %v", s, at, e)
	}
	return n
}

// refused checks that a text is answered an error at a place, and nothing else.
func refused(t *testing.T, f face, s string, at int, what api.Errno) {
	t.Helper()
	n, a, e := f(s)
	if a != at || e != what {
		t.Errorf("%.80q: %d, %v, want %d, %v", s, a, e, at, what)
	}
	if told(n) != told(api.Node{}) {
		t.Errorf("%.80q: a tree beside %v: %s", s, e, told(n))
	}
}

// times is a text many times.
func times(n int, s string) string { return strings.Repeat(s, n) }

// P7.2: the chapter's examples.
func TestExamples(t *testing.T) {
	reads(t, syntax.Expr, "a - b - 1.5", "Binary - @6 (Binary - @2 (Name a @0, Name b @4), Num 1500000 @8)")
	reads(t, syntax.Expr, "2026-01-31", "Date 46051 @0")
	refused(t, syntax.Expr, "2026 - 01", 7, api.ErrSyntaxNum)
	reads(t, syntax.Expr, `scale(feed "eur", one(EUR))`, "Call scale @0 (Feed eur @6, Call one @18 (Cur EUR @22))")
	reads(t, syntax.Expr, "if a < 1 and not b then x.y else -2",
		"If @0 (Binary and @9 (Binary < @5 (Name a @3, Num 1000000 @7), Unary not @13 (Name b @17)), Name x.y @24, Unary - @33 (Num 2000000 @34))")
	reads(t, syntax.Module, "module m; import n; let f(a, b) = a + b; let c = f(1, n.d);",
		"Module m @0 (Import n @17, Let f @24 (Param a @26, Param b @29, Binary + @36 (Name a @34, Name b @38)), Let c @45 (Call f @49 (Num 1000000 @51, Name n.d @54)))")
	refused(t, syntax.Module, "module m; let = 1;", 14, api.ErrSyntaxToken)
	refused(t, syntax.Expr, "EU", 0, api.ErrSyntaxName)
	refused(t, syntax.Expr, "a.if", 0, api.ErrSyntaxName)
	refused(t, syntax.Expr, "1x", 0, api.ErrSyntaxNum)
	refused(t, syntax.Expr, "?", 0, api.ErrSyntaxByte)
	refused(t, syntax.Expr, "f()", 2, api.ErrSyntaxToken)
}

// P7.2: each kind of node, and its place.
func TestKinds(t *testing.T) {
	for s, want := range map[string]string{
		"0":                      "Num @0",
		" 0.000001":              "Num 1 @1",
		"1.50":                   "Num 1500000 @0",
		"1000000000":             "Num 1000000000000000 @0",
		"1900-01-01":             "Date @0",
		" 2099-12-31 ":           "Date 73048 @1",
		"EUR":                    "Cur EUR @0",
		" AZA":                   "Cur AZA @1",
		"true":                   "Bool 1 @0",
		" false":                 "Bool @1",
		`feed "a"`:               "Feed a @0",
		` feed  "if"`:            "Feed if @1",
		"a":                      "Name a @0",
		" z_09":                  "Name z_09 @1",
		"truer":                  "Name truer @0",
		"x.y":                    "Name x.y @0",
		"ifs.lets":               "Name ifs.lets @0",
		"f(1)":                   "Call f @0 (Num 1000000 @2)",
		" f ( a , b )":           "Call f @1 (Name a @5, Name b @9)",
		"x.y(z)":                 "Call x.y @0 (Name z @4)",
		"f((a))":                 "Call f @0 (Name a @3)",
		"f(g(h(a)))":             "Call f @0 (Call g @2 (Call h @4 (Name a @6)))",
		"-1":                     "Unary - @0 (Num 1000000 @1)",
		" - - 1":                 "Unary - @1 (Unary - @3 (Num 1000000 @5))",
		"--1":                    "Unary - @0 (Unary - @1 (Num 1000000 @2))",
		"not a":                  "Unary not @0 (Name a @4)",
		" not not a":             "Unary not @1 (Unary not @5 (Name a @9))",
		"if a then b else c":     "If @0 (Name a @3, Name b @10, Name c @17)",
		` pick "x"(a, b, c)`:     "Pick x @1 (Name a @10, Name b @13, Name c @16)",
		`pick "pick" (1,2,3)`:    "Pick pick @0 (Num 1000000 @13, Num 2000000 @15, Num 3000000 @17)",
		"(a)":                    "Name a @1",
		" ( ( a ) )":             "Name a @5",
		"(a+b)":                  "Binary + @2 (Name a @1, Name b @3)",
		"(if a then b else c)":   "If @1 (Name a @4, Name b @11, Name c @18)",
		"1-1":                    "Binary - @1 (Num 1000000 @0, Num 1000000 @2)",
		"2026-10-311":            "Binary - @7 (Binary - @4 (Num 2026000000 @0, Num 10000000 @5), Num 311000000 @8)",
		"12026-10-31":            "Binary - @8 (Binary - @5 (Num 12026000000 @0, Num 10000000 @6), Num 31000000 @9)",
		"2026 -10-31":            "Binary - @8 (Binary - @5 (Num 2026000000 @0, Num 10000000 @6), Num 31000000 @9)",
		"2026-10-31-10":          "Binary - @10 (Date 46324 @0, Num 10000000 @11)",
		"2026-1-31":              "Binary - @6 (Binary - @4 (Num 2026000000 @0, Num 1000000 @5), Num 31000000 @7)",
		"202-10-31":              "Binary - @6 (Binary - @3 (Num 202000000 @0, Num 10000000 @4), Num 31000000 @7)",
		"2026-10-1.5":            "Binary - @7 (Binary - @4 (Num 2026000000 @0, Num 10000000 @5), Num 1500000 @8)",
		"2026.5-10-31":           "Binary - @9 (Binary - @6 (Num 2026500000 @0, Num 10000000 @7), Num 31000000 @10)",
		"2026-10":                "Binary - @4 (Num 2026000000 @0, Num 10000000 @5)",
		"2026-10-a":              "Binary - @7 (Binary - @4 (Num 2026000000 @0, Num 10000000 @5), Name a @8)",
		"2026-01-31":             "Date 46051 @0",
		"-2026-01-31":            "Unary - @0 (Date 46051 @1)",
		"2026-10-31-2026-10-31":  "Binary - @10 (Date 46324 @0, Date 46324 @11)",
		"a<=b":                   "Binary <= @1 (Name a @0, Name b @3)",
		"a<b":                    "Binary < @1 (Name a @0, Name b @2)",
		"a=-b":                   "Binary = @1 (Name a @0, Unary - @2 (Name b @3))",
		"a--b":                   "Binary - @1 (Name a @0, Unary - @2 (Name b @3))",
		"a#b\n+#c\nb#":           "Binary + @4 (Name a @0, Name b @8)",
		"\x00a\x1f+\r\tb\v":      "Binary + @3 (Name a @1, Name b @6)",
		"#\"?\nEUR":              "Cur EUR @4",
		"not(a)and(b)or(c)":      "Binary or @12 (Binary and @6 (Unary not @0 (Name a @4), Name b @10), Name c @15)",
		"(1)-(2)":                "Binary - @3 (Num 1000000 @1, Num 2000000 @5)",
		"pick\"a\"(EUR,EUR,EUR)": "Pick a @0 (Cur EUR @8, Cur EUR @12, Cur EUR @16)",
		"feed\"eur\"*2":          "Binary * @9 (Feed eur @0, Num 2000000 @10)",
		"if(a)then(b)else(c)":    "If @0 (Name a @3, Name b @10, Name c @17)",
	} {
		reads(t, syntax.Expr, s, want)
	}
}

// P7.2: what binds more, and from which side; by what parentheses say the same.
func TestRows(t *testing.T) {
	for s, same := range map[string]string{
		"a or b or c":                            "(a or b) or c",
		"a and b and c":                          "(a and b) and c",
		"a or b and c":                           "a or (b and c)",
		"a and b or c":                           "(a and b) or c",
		"not a and b":                            "(not a) and b",
		"not a or b":                             "(not a) or b",
		"not a < b":                              "not (a < b)",
		"not a = b and c":                        "(not (a = b)) and c",
		"a < b and c <= d or e = f":              "((a < b) and (c <= d)) or (e = f)",
		"a + b < c - d":                          "(a + b) < (c - d)",
		"a + b - c + d":                          "((a + b) - c) + d",
		"a - b * c":                              "a - (b * c)",
		"a * b - c":                              "(a * b) - c",
		"a / b / c * d":                          "((a / b) / c) * d",
		"-a * b":                                 "(-a) * b",
		"a * -b":                                 "a * (-b)",
		"-a - -b":                                "(-a) - (-b)",
		"-f(a)":                                  "-(f(a))",
		"- -a + b":                               "(-(-a)) + b",
		"if a then b else c + d":                 "if a then b else (c + d)",
		"if a then b else if c then d else e":    "if a then b else (if c then d else e)",
		"if if a then b else c then d else e":    "if (if a then b else c) then d else e",
		"if a then if b then c else d else e":    "if a then (if b then c else d) else e",
		"if a or b then c and d else not e":      "if (a or b) then (c and d) else (not e)",
		"f(a + b, if c then d else e, not g)":    "f((a + b), (if c then d else e), (not g))",
		`pick "l"(a + b, if c then d else e, f)`: `pick "l"((a + b), (if c then d else e), (f))`,
	} {
		if a, b := told(placeless(right(t, syntax.Expr, s))), told(placeless(right(t, syntax.Expr, same))); a != b {
			t.Errorf("%q: %s, want %s", s, a, b)
		}
	}
}

// P7.2
func TestModules(t *testing.T) {
	for s, want := range map[string]string{
		"module m;":                                     "Module m @0",
		" module  m ; # no more":                        "Module m @1",
		"module m;import a;import b;":                   "Module m @0 (Import a @16, Import b @25)",
		"module m; import m; import m;":                 "Module m @0 (Import m @17, Import m @27)",
		"module m;let a=1;":                             "Module m @0 (Let a @13 (Num 1000000 @15))",
		"module m;let a(b)=b;":                          "Module m @0 (Let a @13 (Param b @15, Name b @18))",
		"module m;let a(b,b)=c;let a=EUR;":              "Module m @0 (Let a @13 (Param b @15, Param b @17, Name c @20), Let a @26 (Cur EUR @28))",
		"module m;import n;let a=if b=c then d else-e;": "Module m @0 (Import n @16, Let a @22 (If @24 (Binary = @28 (Name b @27, Name c @29), Name d @36, Unary - @42 (Name e @43))))",
		"module m;let a=b=c;":                           "Module m @0 (Let a @13 (Binary = @16 (Name b @15, Name c @17)))",
	} {
		reads(t, syntax.Module, s, want)
	}
}

// P7.2: another token than the rows want, or the end; ^ tells where.
func TestTokenFaults(t *testing.T) {
	marked := func(f face, s string) {
		t.Helper()
		ahead, behind, _ := strings.Cut(s, "^")
		refused(t, f, ahead+behind, len(ahead), api.ErrSyntaxToken)
	}
	for _, s := range []string{
		// ends and beginnings
		"^", "  ^", "# a^", "^)", "^;", "^,", "^=", "^+a", "^*a", "^/a", "^<a", "^<=a", "^then", "^else a", "^and a", "^or a", "^\"a\"",
		"^let", "^let a = 1;", "^module m;", "^import a;", "a + ^", "a + #b^", "a - ^", "a * ^", "a < ^", "a and^", "a or ^", "a or  # b\n ^", "not ^", "-^",
		// operands
		"a + ^+ b", "a * ^/ b", "-^+a", "a - ^)", "a and ^or b", "a or ^and b", "not ^and", "a < ^< b", "a < ^= b", "a =^= b", "a = ^< b", "a = ^<= b",
		"not ^if a then b else c", "a + ^if a then b else c", "a and ^if a then b else c", "-^if a then b else c", "a < ^not b", "a + ^not b", "-^not a",
		"a < b ^< c", "a = b ^<= c", "a <= b ^= c", "not a < b ^= c",
		// one more
		"a^)", "a ^b", "1 ^2", "a ^1", "1 ^a", "EUR ^USD", "EUR^x", "x^EUR", "EUR^1", "x^\"a\"", "x.y ^x.y", "x.y^EUR", "2026-01-31 ^1", "a ^;", "a ^, b", "a ^let", "a ^then",
		"a ^feed \"b\"", "a ^not b", "a ^if b then c else d", "true ^false", "true ^(a)", "1 ^(a)", "1^\"a\"", "EUR ^(a)", "(a) ^(b)", "f(a) ^(b)",
		// parentheses
		"(^", "(^)", "(a^", "(a ^;", "(a^, b)", "(a ^b)", "((a)^",
		// calls
		"f(^", "f(^)", "f(^,a)", "f(a^", "f(a,^", "f(a,^)", "f(a,^, b)", "f(a, b  ^", "f^)", "f(a^;b)", "f(a ^b)", "x.y(^)", "f(^then)",
		// feed, pick
		"feed^", "feed ^a", "feed ^1", "feed ^(\"a\")", "feed \"a\" ^\"b\"", "feed \"a\" ^(b)", "pick^", "pick ^(a,b,c)", "pick ^a(a,b,c)", "pick \"a\"^", "pick \"a\" ^a", "pick \"a\"(^",
		"pick \"a\"(^)", "pick \"a\"(a^", "pick \"a\"(a^)", "pick \"a\"(a,^", "pick \"a\"(a,^)", "pick \"a\"(a,b^)", "pick \"a\"(a,b,^", "pick \"a\"(a,b,^)", "pick \"a\"(a,b,c^",
		"pick \"a\"(a,b,c^,d)", "pick \"a\"(a,b,c) ^(d)",
		// if
		"if^", "if ^then", "if a^", "if a ^else b", "if a then^", "if a then ^else", "if a then b^", "if a then b ^then c", "if a then b else^", "if a then b else ^)", "if a then b else c ^else d",
	} {
		marked(syntax.Expr, s)
	}
	for _, s := range []string{
		"^", "  # a\n^", "^m", "^a + b", "^let a = 1;", "^import a;", "^;", "module^", "module ^;", "module ^if;", "module ^module;", "module ^a.b;", "module ^EUR;", "module ^1;", "module ^\"m\";",
		"module m^", "module m ^m;", "module m ^import a;", "module m;^;", "module m; ^a", "module m; ^1", "module m; ^module n;", "module m; ^(", "module m; ^then",
		"module m; import^", "module m; import ^;", "module m; import ^a.b;", "module m; import ^let;", "module m; import ^EUR;", "module m; import ^\"a\";", "module m; import a^", "module m; import a^, b;",
		"module m; import a ^let b = 1;", "module m; import a; ^;", "module m; import a; ^b",
		"module m; let^", "module m; let ^=", "module m; let ^a.b = 1;", "module m; let ^if = 1;", "module m; let ^EUR = 1;", "module m; let a^", "module m; let a ^;", "module m; let a ^<= 1;", "module m; let a ^1;",
		"module m; let a(^", "module m; let a(^) = 1;", "module m; let a(^1) = 1;", "module m; let a(^if) = 1;", "module m; let a(^b.c) = 1;", "module m; let a(^(b)) = 1;", "module m; let a(b^",
		"module m; let a(b ^c) = 1;", "module m; let a(b,^", "module m; let a(b,^) = 1;", "module m; let a(b,^, c) = 1;", "module m; let a(b)^", "module m; let a(b) ^1;", "module m; let a(b)^(c) = 1;",
		"module m; let a =^", "module m; let a = ^;", "module m; let a = 1^", "module m; let a = 1 ^let b = 2;", "module m; let a = 1 ^1;", "module m; let a = b < c ^< d;", "module m; let a = (1^;", "module m; let a = f(1^;",
		"module m; let a = ^let b = 1;", "module m; let a = feed ^eur;", "module m; let a = 1;^;", "module m; let a = 1; ^import b;", "module m; let a = 1; ^a", "module m; let a = 1; ^module n;", "module m; let a = 1; ^)", "module m; let a = 1; let^",
	} {
		marked(syntax.Module, s)
	}
}

// P7.2: of several faults the first one from the left; R2.
func TestFirstFault(t *testing.T) {
	refused(t, syntax.Expr, "a b c )", 2, api.ErrSyntaxToken)
	refused(t, syntax.Expr, "a b ?", 4, api.ErrSyntaxByte)
	refused(t, syntax.Expr, ") 01 ?", 2, api.ErrSyntaxNum)
	refused(t, syntax.Expr, "f(a, b c, 1, 2, 3, 4, 5, 6, 7, 8)", 7, api.ErrSyntaxToken)
	refused(t, syntax.Module, "module m; let a = ; import b;", 18, api.ErrSyntaxToken)
	refused(t, syntax.Expr, "module m;", 0, api.ErrSyntaxToken)
	refused(t, syntax.Module, "a", 0, api.ErrSyntaxToken)
}

// R3: what is answered is new memory, and no two lists share any, nor their spare room.
func TestMemory(t *testing.T) {
	const s = "module m; import n; import o; let f(a, b, c) = a + b * c - f(a, b, c); let g = pick \"x\"(1, if a then b else c, -f(1, 2, 3, 4, 5));"
	n, want := right(t, syntax.Module, s), told(right(t, syntax.Module, s))
	lists := 0
	var litter func(api.Node)
	litter = func(n api.Node) {
		for _, k := range n.Kids {
			litter(k)
		}
		lists++
		room := n.Kids[len(n.Kids):cap(n.Kids)]
		for i := range room {
			room[i] = api.Node{Kind: api.NCur, Text: "XXX"}
		}
	}
	litter(n)
	if got := told(n); got != want || lists < 20 {
		t.Errorf("%d lists: %s, want %s", lists, got, want)
	}
	var spoil func(api.Node)
	spoil = func(n api.Node) {
		for i := range n.Kids {
			spoil(n.Kids[i])
			n.Kids[i] = api.Node{}
		}
	}
	spoil(n)
	reads(t, syntax.Module, s, want)
}
