package syntax_test

import (
	"strings"
	"testing"

	"whetstone/api"
	"whetstone/syntax"
)

func TestExamples(t *testing.T) {
	for s, want := range map[string]string{
		"fn f(x: int{v > 0}) -> int = x+1*2;": "fn f(x: int{v > 0}) -> int = x + 1 * 2;",
		"fn f() -> int = (1 + 2) * 3;":        "fn f() -> int = (1 + 2) * 3;",
		"qual q(a) = v;":                      "qual q(a) = v;",
	} {
		if got := syntax.Print(parsed(t, s)); got != want {
			t.Errorf("%q is printed %q", s, got)
		}
	}
	fails(t, "fn f() -> int = 1", 17, 17, api.ErrEnds)
}

func TestKinds(t *testing.T) {
	for i, kind := range []int{
		syntax.Num, syntax.True, syntax.False, syntax.Var, syntax.Call, syntax.Neg, syntax.Not, syntax.Add, syntax.Sub, syntax.Mul, syntax.Div, syntax.Mod, syntax.Eq, syntax.Ne,
		syntax.Lt, syntax.Le, syntax.Gt, syntax.Ge, syntax.And, syntax.Or, syntax.Let, syntax.If, syntax.Assert, syntax.Get, syntax.Set, syntax.Len, syntax.Fill,
	} {
		if kind != i+1 {
			t.Error("a kind is", kind, "not", i+1)
		}
	}
	if syntax.Fn != 1 || syntax.Qual != 2 {
		t.Error("kinds of items")
	}
}

// TestItemsByHand: all that an item has, Spans too.
func TestItemsByHand(t *testing.T) {
	for s, want := range map[string]item{
		"fn f() -> int = 1;": {
			Kind: syntax.Fn, Name: "f", At: api.Span{From: 3, To: 4},
			Result: syntax.Type{Base: api.Int, Span: api.Span{From: 10, To: 13}}, Body: at(16, 17, number("1")),
		},
		" pub fn g(x: int)->bool=x ; // 1": {
			Kind: syntax.Fn, Pub: true, Name: "g", At: api.Span{From: 8, To: 9},
			Params: []syntax.Param{{Name: "x", Span: api.Span{From: 10, To: 11}, Type: syntax.Type{Base: api.Int, Span: api.Span{From: 13, To: 16}}}},
			Result: syntax.Type{Base: api.Bool, Span: api.Span{From: 19, To: 23}}, Body: at(24, 25, name("x")),
		},
		"fn f(a: arr 10, b: bool { v }) -> arr 0{true} = a;": {
			Kind: syntax.Fn, Name: "f", At: api.Span{From: 3, To: 4},
			Params: []syntax.Param{
				{Name: "a", Span: api.Span{From: 5, To: 6}, Type: syntax.Type{Base: api.Arr, Len: 10, Span: api.Span{From: 8, To: 14}}},
				{Name: "b", Span: api.Span{From: 16, To: 17}, Type: syntax.Type{Base: api.Bool, Pred: []expr{at(26, 27, name("v"))}, Span: api.Span{From: 19, To: 29}}},
			},
			Result: syntax.Type{Base: api.Arr, Pred: []expr{at(40, 44, of(syntax.True))}, Span: api.Span{From: 34, To: 45}}, Body: at(48, 49, name("a")),
		},
		"qual q(a, b) = a <= b;": {
			Kind: syntax.Qual, Name: "q", At: api.Span{From: 5, To: 6},
			Params: []syntax.Param{
				{Name: "a", Span: api.Span{From: 7, To: 8}, Type: syntax.Type{Base: api.Int, Span: api.Span{From: 7, To: 8}}},
				{Name: "b", Span: api.Span{From: 10, To: 11}, Type: syntax.Type{Base: api.Int, Span: api.Span{From: 10, To: 11}}},
			},
			Result: syntax.Type{Base: api.Bool}, Body: at(15, 21, of(syntax.Le, at(15, 16, name("a")), at(20, 21, name("b")))),
		},
		"fn f(x: int{v>(0)})->int=x;": {
			Kind: syntax.Fn, Name: "f", At: api.Span{From: 3, To: 4},
			Params: []syntax.Param{{Name: "x", Span: api.Span{From: 5, To: 6}, Type: syntax.Type{
				Base: api.Int, Span: api.Span{From: 8, To: 18}, Pred: []expr{at(12, 17, of(syntax.Gt, at(12, 13, name("v")), at(15, 16, number("0"))))},
			}}},
			Result: syntax.Type{Base: api.Int, Span: api.Span{From: 21, To: 24}}, Body: at(25, 26, name("x")),
		},
	} {
		if got := parsed(t, s); !sameItem(got, want) {
			t.Errorf("Parse(%q) = %v, not %v", s, got, want)
		}
	}
}

// TestExpressionsByHand: trees without their Spans.
func TestExpressionsByHand(t *testing.T) {
	a, b, c, d := name("a"), name("b"), name("c"), name("d")
	one := number("1")
	for s, want := range map[string]expr{
		"0": number("0"), "1": one, "1234567890123456789012345678901234567890": number("1234567890123456789012345678901234567890"),
		"true": of(syntax.True), "false": of(syntax.False), "v": name("v"), "a": a, "(a)": a, "((a))": a, "f()": call("f"), "f ( )": call("f"), "f(a)": call("f", a), "f(a, 1, (b))": call("f", a, one, b), "f(g(a), g())": call("f", call("g", a), call("g")),
		"-1": of(syntax.Neg, one), "--a": of(syntax.Neg, of(syntax.Neg, a)), "not a": of(syntax.Not, a), "not not a": of(syntax.Not, of(syntax.Not, a)), "-not-a": of(syntax.Neg, of(syntax.Not, of(syntax.Neg, a))),
		"a+b": of(syntax.Add, a, b), "a-b": of(syntax.Sub, a, b), "a*b": of(syntax.Mul, a, b), "a/b": of(syntax.Div, a, b), "a%b": of(syntax.Mod, a, b), "a=b": of(syntax.Eq, a, b), "a!=b": of(syntax.Ne, a, b),
		"a<b": of(syntax.Lt, a, b), "a<=b": of(syntax.Le, a, b), "a>b": of(syntax.Gt, a, b), "a>=b": of(syntax.Ge, a, b), "a and b": of(syntax.And, a, b), "a or b": of(syntax.Or, a, b),
		"a - b - c": of(syntax.Sub, of(syntax.Sub, a, b), c), "a - (b - c)": of(syntax.Sub, a, of(syntax.Sub, b, c)), "a / b * c % d": of(syntax.Mod, of(syntax.Mul, of(syntax.Div, a, b), c), d),
		"a + b * c": of(syntax.Add, a, of(syntax.Mul, b, c)), "a * b + c": of(syntax.Add, of(syntax.Mul, a, b), c), "a + b - c + d": of(syntax.Add, of(syntax.Sub, of(syntax.Add, a, b), c), d),
		"a and b and c": of(syntax.And, of(syntax.And, a, b), c), "a or b or c": of(syntax.Or, of(syntax.Or, a, b), c), "a or b and c or d": of(syntax.Or, of(syntax.Or, a, of(syntax.And, b, c)), d), "a and b or c and d": of(syntax.Or, of(syntax.And, a, b), of(syntax.And, c, d)),
		"a = b and c < d": of(syntax.And, of(syntax.Eq, a, b), of(syntax.Lt, c, d)), "a + b < c * d": of(syntax.Lt, of(syntax.Add, a, b), of(syntax.Mul, c, d)), "(a < b) = (c < d)": of(syntax.Eq, of(syntax.Lt, a, b), of(syntax.Lt, c, d)),
		"-a * b": of(syntax.Mul, of(syntax.Neg, a), b), "-(a * b)": of(syntax.Neg, of(syntax.Mul, a, b)), "a - -b": of(syntax.Sub, a, of(syntax.Neg, b)), "a--b": of(syntax.Sub, a, of(syntax.Neg, b)), "not a = b": of(syntax.Eq, of(syntax.Not, a), b), "not a and b": of(syntax.And, of(syntax.Not, a), b), "-f(a) + 1": of(syntax.Add, of(syntax.Neg, call("f", a)), one),
		"let a = 1 in b": let("a", one, b), "let a=let b=1in b in c": let("a", let("b", one, b), c), "let a = b in let c = d in 1": let("a", b, let("c", d, one)), "let a = b = c in a or d": let("a", of(syntax.Eq, b, c), of(syntax.Or, a, d)),
		"if a then b else c": of(syntax.If, a, b, c), "if a then if b then c else d else 1": of(syntax.If, a, of(syntax.If, b, c, d), one), "if a then b else if c then d else 1": of(syntax.If, a, b, of(syntax.If, c, d, one)), "if if a then b else c then d else 1 + 1": of(syntax.If, of(syntax.If, a, b, c), d, of(syntax.Add, one, one)),
		"assert a in b": of(syntax.Assert, a, b), "assert assert a in b in assert c in d": of(syntax.Assert, of(syntax.Assert, a, b), of(syntax.Assert, c, d)), "1 + (let a = 1 in a)": of(syntax.Add, one, let("a", one, a)), "(if a then b else c) = d": of(syntax.Eq, of(syntax.If, a, b, c), d),
		"get(a, b)": of(syntax.Get, a, b), "set(a, b, c)": of(syntax.Set, a, b, c), "len(a)": of(syntax.Len, a), "fill(3, a)": fill("3", a), "fill(0, a)": fill("0", a), "fill(1000000, a)": fill("1000000", a), "get(set(a, 1, b), len(c))": of(syntax.Get, of(syntax.Set, a, one, b), of(syntax.Len, c)),
		"f(let a = 1 in a, if a then b else c)": call("f", let("a", one, a), of(syntax.If, a, b, c)), "get (fill (3, 1), 1)": of(syntax.Get, fill("3", one), one), "v = v": of(syntax.Eq, name("v"), name("v")), "1<a//<\n": of(syntax.Lt, one, a),
	} {
		if got := bareExpr(body(t, s)); !same(got, want) {
			t.Errorf("%q is %v, not %v", s, got, want)
		}
	}
}

// TestSpansByHand: which bytes are a tree's own. They count from the text of
// the expression on.
func TestSpansByHand(t *testing.T) {
	a := func(from int) expr { return at(from, from+1, name("a")) }
	for s, want := range map[string]expr{
		"(a)":                           a(1),
		"((a))":                         a(2),
		"(a) + a":                       at(0, 7, of(syntax.Add, a(1), a(6))),
		"a + (a)":                       at(0, 7, of(syntax.Add, a(0), a(5))),
		"(a + a)":                       at(1, 6, of(syntax.Add, a(1), a(5))),
		"( a+a ) *a":                    at(0, 10, of(syntax.Mul, at(2, 5, of(syntax.Add, a(2), a(4))), a(9))),
		"((a) + a) * a":                 at(0, 13, of(syntax.Mul, at(1, 8, of(syntax.Add, a(2), a(7))), a(12))),
		"a*((a))<a":                     at(0, 9, of(syntax.Lt, at(0, 7, of(syntax.Mul, a(0), a(4))), a(8))),
		"(a) - a - (a)":                 at(0, 13, of(syntax.Sub, at(0, 7, of(syntax.Sub, a(1), a(6))), a(11))),
		"(a) or ((a))":                  at(0, 12, of(syntax.Or, a(1), a(9))),
		"- a":                           at(0, 3, of(syntax.Neg, a(2))),
		"-(a)":                          at(0, 4, of(syntax.Neg, a(2))),
		"(-a)":                          at(1, 3, of(syntax.Neg, a(2))),
		"not (-(a))":                    at(0, 10, of(syntax.Not, at(5, 9, of(syntax.Neg, a(7))))),
		"(not a) and a":                 at(0, 13, of(syntax.And, at(1, 6, of(syntax.Not, a(5))), a(12))),
		"f (a ) ":                       at(0, 6, call("f", a(3))),
		"f( )":                          at(0, 4, call("f")),
		"f((a), (a)+a)":                 at(0, 13, call("f", a(3), at(7, 12, of(syntax.Add, a(8), a(11))))),
		"(f(a))":                        at(1, 5, call("f", a(3))),
		"get(a,(a) )":                   at(0, 11, of(syntax.Get, a(4), a(7))),
		"set(a,a,a)":                    at(0, 10, of(syntax.Set, a(4), a(6), a(8))),
		"len( a )":                      at(0, 8, of(syntax.Len, a(5))),
		"fill(12,(a))":                  at(0, 12, fill("12", a(9))),
		"let a=a in a":                  at(0, 12, let("a", a(6), a(11))),
		"let a=(a)in(a)":                at(0, 14, let("a", a(7), a(12))),
		"(let a=a in a)":                at(1, 13, let("a", a(7), a(12))),
		"assert a in (a)":               at(0, 15, of(syntax.Assert, a(7), a(13))),
		"if a then a else(a)":           at(0, 19, of(syntax.If, a(3), a(10), a(17))),
		"a+(if a then a else a)":        at(0, 22, of(syntax.Add, a(0), at(3, 21, of(syntax.If, a(6), a(13), a(20))))),
		"// (\n( // a\n a // b\n) // c": a(13),
		"true":                          at(0, 4, of(syntax.True)), "false": at(0, 5, of(syntax.False)), "v": at(0, 1, name("v")), "907": at(0, 3, number("907")),
	} {
		const ahead = "fn f() -> int = "
		got := parsed(t, ahead+s+"\n;")
		spans(&got, func(s *api.Span) {
			s.From -= len(ahead)
			s.To -= len(ahead)
		})
		if !same(got.Body, want) {
			t.Errorf("%q is %v, not %v", s, got.Body, want)
		}
	}
}

func TestParseWhatIsMade(t *testing.T) {
	m := newMaker(1)
	for range 6000 {
		want, s, _ := m.made(12)
		if got := parsed(t, s); !sameItem(got, want) {
			t.Fatalf("Parse(%q) = %v, not %v", s, got, want)
		}
	}
}

// TestBlanksAndRemarksSayNothing is the second half of P9.2: of one list of
// tokens, laid out in two ways.
func TestBlanksAndRemarksSayNothing(t *testing.T) {
	m := newMaker(2)
	for range 2000 {
		m.item(12)
		one, _ := m.laid(m.tokens)
		two, _ := m.laid(m.tokens)
		plain := strings.Join(m.tokens, " ")
		want := bareItem(parsed(t, plain))
		if !sameItem(bareItem(parsed(t, one)), want) || !sameItem(bareItem(parsed(t, two)), want) {
			t.Fatalf("%q, %q and %q aren't one", plain, one, two)
		}
	}
}

// TestPrefixesEnd: an item ends too early wherever its tokens are cut.
func TestPrefixesEnd(t *testing.T) {
	ends(t, "")
	m := newMaker(3)
	for range 300 {
		m.item(8)
		for n := range m.tokens {
			s, _ := m.laid(m.tokens[:n])
			fails(t, s, len(s), len(s), api.ErrEnds)
		}
	}
}

// TestMore: any token behind the semicolon is told, and nothing behind it.
func TestMore(t *testing.T) {
	m := newMaker(4)
	for range 1000 {
		m.item(6)
		n := len(m.tokens)
		m.add(m.one(";", "fn", "a", "1", ")", "let", "="), m.one("007", "fn", ";"))
		s, at := m.laid(m.tokens)
		fails(t, s, at[n].From, at[n].To, api.ErrMore)
	}
	wrong(t, "fn f() -> int = 1; // x\n", "fn", " g() -> int = 2;", api.ErrMore)
	wrong(t, "qual q(a) = true ;", ";", ";", api.ErrMore)
	parsed(t, "fn f() -> int = 1; // fn\n \t// ;")
}

// TestTokensGoWrongFirst: what layer 8 says is told ahead of all else.
func TestTokensGoWrongFirst(t *testing.T) {
	long, digits := strings.Repeat("a", 25), strings.Repeat("1", 41)
	for _, ahead := range []string{"", "fn f() -> int = ", "qual qual qual ", "fn f() -> int = 007 ", "fn f() -> int = 1; ", "// #\n) ", "fn f() -> int = " + strings.Repeat("(", 99)} {
		for there, e := range map[string]api.Errno{"#": api.ErrToken, "!": api.ErrToken, "\x00": api.ErrToken, "\u20ac": api.ErrToken, "A": api.ErrToken, "_": api.ErrToken, long: api.ErrBig, digits: api.ErrBig, long + "#": api.ErrBig} {
			for _, behind := range []string{"", ";", " #", " " + long} {
				fails(t, ahead+there+behind, len(ahead), len(ahead)+1, e)
			}
		}
	}
	parsed(t, "fn f() -> int = "+long[1:]+";")
	parsed(t, "fn f() -> int = "+digits[1:]+";")
}
