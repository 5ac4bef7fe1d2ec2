package base_test

import (
	"slices"
	"strings"
	"testing"

	"whetstone/api"
	"whetstone/base"
	"whetstone/lex"
	"whetstone/syntax"
)

func TestConstant(t *testing.T) {
	for _, s := range []string{"0", "1", "-1", "--1", "1 + 2", "1 - 2", "2 * 3", "-(1 + 2) * -3 - 4", "1 + 2 + 3 * 4 * 5", "12345678901234567890 * (1 - (2 - (3 + -4)))"} {
		if !base.Constant(exprOf(t, s)) {
			t.Errorf("Constant(%s) is false", s)
		}
	}
	for _, s := range []string{"x", "v", "true", "false", "not true", "f()", "f(1)", "1 / 2", "1 % 2", "1 = 1", "1 != 1", "1 < 2", "1 <= 2", "1 > 2", "1 >= 2", "true and true", "true or true", "let a = 1 in 2", "if true then 1 else 2", "assert true in 1", "get(fill(1, 1), 0)", "set(fill(1, 1), 0, 0)", "len(fill(1, 1))", "fill(1, 1)"} {
		e := exprOf(t, s)
		if base.Constant(e) {
			t.Errorf("Constant(%s) is true", s)
		}
		for _, around := range []string{"-($)", "($) + 1", "1 + ($)", "($) - 1", "1 - ($)", "($) * 1", "1 * ($)", "1 + 2 * -(3 - ($)) + 4", "($) * 2 * 3 * 4"} {
			if within := filled(around, s); base.Constant(exprOf(t, within)) {
				t.Errorf("Constant(%s) is true", within)
			}
		}
	}
}

// isConstant: by the tokens of its text.
func isConstant(t *testing.T, s string) bool {
	tokens, _, e := lex.Tokens([]byte(s))
	if e != api.OK {
		t.Fatal(s, e)
	}
	return !slices.ContainsFunc(tokens, func(token lex.Token) bool {
		return token.Kind == lex.Name || token.Kind == lex.Word || token.Kind == lex.Sign && !strings.Contains("+-*()", token.Text)
	})
}

func TestConstantByItsTokens(t *testing.T) {
	m := newMaker(1)
	m.slips = 3
	count := 0
	for range 20000 {
		s := m.expr(number, 1+m.Intn(3))
		want := isConstant(t, s)
		if base.Constant(exprOf(t, s)) != want {
			t.Fatalf("Constant(%s) isn't %v", s, want)
		}
		if want && len(s) > 5 {
			count++
		}
	}
	if count < 200 {
		t.Error("constants", count)
	}
}

func TestCalls(t *testing.T) {
	for s, want := range map[string]string{
		"fn f() -> int = 1;":                                                 "",
		"fn f(g: int) -> int = g;":                                           "",
		"fn f() -> int = f();":                                               "f",
		"fn f() -> int = nowhere(1, 2);":                                     "nowhere",
		"fn f() -> int = g(h(k()), l());":                                    "g h k l",
		"fn f() -> int = b() + a() * c();":                                   "b a c",
		"fn f() -> int = (c() + b()) + (a() + c());":                         "c b a",
		"fn f() -> int = a(b(a(c(b()))));":                                   "a b c",
		"fn f() -> int = let f = g() in h() + f;":                            "g h",
		"fn f() -> int = let x = a() in let y = b() in x;":                   "a b",
		"fn f() -> int = if c() then b() else a();":                          "c b a",
		"fn f() -> int = assert b() in a();":                                 "b a",
		"fn f() -> int = get(c(), b()) + get(set(d(), e(), f()), len(g()));": "c b d e f g",
		"fn f() -> arr 3 = fill(3, -a());":                                   "a",
		"fn f() -> bool = not z() and y() = x() or w() != y();":              "z y x w",
		"fn f() -> bool = d() < c() or b() >= a();":                          "d c b a",
		"fn f() -> int = d() / c() - b() % a();":                             "d c b a",
		"fn f(x: int{g() > 0}) -> int{h() > 0} = k();":                       "k",
		"qual q(a) = f(a) > g();":                                            "f g",
		"qual f(a) = a > 0;":                                                 "",
	} {
		got := base.Calls(parsed(t, s))
		if !slices.Equal(got, strings.Fields(want)) {
			t.Errorf("Calls of %q = %q", s, got)
		}
	}
}

// calledNames: by the tokens of its text: in their order, a call's name stands
// ahead of its arguments.
func calledNames(t *testing.T, s string) []string {
	tokens, _, e := lex.Tokens([]byte(s))
	if e != api.OK {
		t.Fatal(s, e)
	}
	var l []string
	for i, token := range tokens {
		if token.Kind == lex.Name && tokens[i+1].Text == "(" && !slices.Contains(l, token.Text) {
			l = append(l, token.Text)
		}
	}
	return l
}

func TestCallsByTheirTokens(t *testing.T) {
	m := newMaker(2)
	m.slips = 4
	most := 0
	for range 5000 {
		s := m.function("f", m.kind())
		it := parsed(t, s)
		want := calledNames(t, s[it.Body.Span.From:it.Body.Span.To])
		if got := base.Calls(it); !slices.Equal(got, want) {
			t.Fatalf("Calls of %q = %q, not %q", s, got, want)
		}
		most = max(most, len(want))
	}
	if most < 4 {
		t.Error("the most functions that an item calls are", most)
	}
}

// TestCallsAtEachPart: of every kind of expression each part is gone through.
func TestCallsAtEachPart(t *testing.T) {
	for kind := syntax.Call; kind <= syntax.Fill; kind++ {
		e := expr{Kind: kind, Name: "k"}
		var want []string
		if kind == syntax.Call {
			want = append(want, "k")
		}
		for _, name := range []string{"c", "a", "b"} {
			e.Args = append(e.Args, expr{Kind: syntax.Call, Name: name})
			want = append(want, name)
		}
		if got := base.Calls(item{Kind: syntax.Fn, Body: e}); !slices.Equal(got, want) {
			t.Errorf("Calls of kind %d = %q, not %q", kind, got, want)
		}
	}
}
