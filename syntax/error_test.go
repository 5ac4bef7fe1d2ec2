package syntax_test

import (
	"strings"
	"testing"

	"whetstone/api"
	"whetstone/syntax"
)

const ahead = "fn f() -> int = "

// TestExpect: a token that may not stand there, with any token behind it.
func TestExpect(t *testing.T) {
	for _, c := range [][2]string{
		// Heads.
		{"", "f"}, {"", "1"}, {"", ";"}, {"", "("}, {"", "let"}, {"", "v"}, {"pub ", "qual"}, {"pub ", "pub"}, {"pub ", "f"}, {"fn ", "("}, {"fn ", "1"}, {"fn ", "v"}, {"fn ", "int"}, {"fn ", "fn"}, {"fn f ", "-"}, {"fn f", ":"}, {"fn f", "->"}, {"fn f", "="},
		{"fn f(", "1"}, {"fn f(", "v"}, {"fn f(", "int"}, {"fn f(", ","}, {"fn f(", ":"}, {"fn f(", "("}, {"fn f(x", ")"}, {"fn f(x", ","}, {"fn f(x", "int"}, {"fn f(x:", ")"}, {"fn f(x:", "x"}, {"fn f(x:", "5"}, {"fn f(x: int", ":"}, {"fn f(x: int", "x"}, {"fn f(x: int", "="}, {"fn f(x: int,", ")"}, {"fn f(x: int,", ","}, {"fn f(x: int,", "int"},
		{"fn f()", ">"}, {"fn f()", "-"}, {"fn f()", "="}, {"fn f()", ")"}, {"fn f()", ":"}, {"fn f() ->", "="}, {"fn f() ->", "f"}, {"fn f() ->", "3"}, {"fn f() -> int", ";"}, {"fn f() -> int", "1"}, {"fn f() -> int", "->"}, {"fn f() -> int", "!="}, {"fn f() -> int", "<="},
		{"fn f(x: arr", ")"}, {"fn f(x: arr", "n"}, {"fn f(x: arr", "int"}, {"fn f(x: arr", "-"}, {"fn f(x: arr", "("}, {"fn f(x: arr 3", "4"}, {"fn f(x: arr 3", "int"}, {"fn f(x: int", "("}, {"fn f(x: int{", "}"}, {"fn f(x: int{", "{"}, {"fn f(x: int{v", ")"}, {"fn f(x: int{v", "v"}, {"fn f(x: int{v}", "{"}, {"fn f(x: int{v", ","}, {"fn f() -> int{v", ";"},
		{"qual ", "("}, {"qual ", "v"}, {"qual ", "fn"}, {"qual q", "="}, {"qual q(", ")"}, {"qual q(", "v"}, {"qual q(", "1"}, {"qual q(", ","}, {"qual q(a", ":"}, {"qual q(a", "b"}, {"qual q(a,", ")"}, {"qual q(a,", ","}, {"qual q(a)", "->"}, {"qual q(a)", ";"}, {"qual q(a)", ":"}, {"qual q(a)", "<="},
		// Expressions.
		{ahead, ";"}, {ahead, ")"}, {ahead, "+"}, {ahead, "*"}, {ahead, "="}, {ahead, "and"}, {ahead, "or"}, {ahead, "in"}, {ahead, "then"}, {ahead, "int"}, {ahead, "fn"}, {ahead, ","}, {ahead, "{"}, {ahead, "->"}, {ahead, "<="}, {ahead, "arr"},
		{ahead + "1", "1"}, {ahead + "1", "a"}, {ahead + "1", ")"}, {ahead + "1", "("}, {ahead + "1", ","}, {ahead + "1", "not"}, {ahead + "1", "let"}, {ahead + "1", "in"}, {ahead + "1", "->"}, {ahead + "1", "fn"}, {ahead + "1", "{"}, {ahead + "1", ":"}, {ahead + "true", "false"}, {ahead + "v", "("}, {ahead + "true", "("}, {ahead + "a", "b"}, {ahead + "(a)", "("}, {ahead + "f()", "("}, {ahead + "(a", ";"}, {ahead + "(a", ","}, {ahead + "(", ")"},
		{ahead + "1 +", "+"}, {ahead + "1 +", "*"}, {ahead + "1 +", ";"}, {ahead + "1 +", "let"}, {ahead + "1 *", "if"}, {ahead + "1 <", "assert"}, {ahead + "a and", "let"}, {ahead + "a or", "or"}, {ahead + "-", "let"}, {ahead + "-", "if"}, {ahead + "not", "assert"}, {ahead + "-", "+"}, {ahead + "not", ";"}, {ahead + "-", "->"},
		// A second comparison isn't the row's.
		{ahead + "1 < 2", "<"}, {ahead + "a = b", "="}, {ahead + "a = b", "!="}, {ahead + "a < b + c", ">="}, {ahead + "a + b = c * d", "="}, {ahead + "x or a < b", "<"}, {ahead + "(a < b", "<"}, {ahead + "f(a > b", ">"}, {ahead + "if a = b", "="}, {ahead + "let a = b = c", "="}, {"fn f(x: int{0 < v", "<"}, {ahead + "a < b and c < d", "<"},
		// let, if, assert.
		{ahead + "let", "="}, {ahead + "let", "v"}, {ahead + "let", "1"}, {ahead + "let", "in"}, {ahead + "let a", "in"}, {ahead + "let a", ":"}, {ahead + "let a", "!="}, {ahead + "let a =", "in"}, {ahead + "let a = 1", ";"}, {ahead + "let a = 1", "then"}, {ahead + "let a = 1 in", "in"}, {ahead + "let a = 1 in", ";"}, {ahead + "let a = 1 in 2", "in"},
		{ahead + "if", "then"}, {ahead + "if a", "else"}, {ahead + "if a", "in"}, {ahead + "if a", ";"}, {ahead + "if a then", "else"}, {ahead + "if a then b", ";"}, {ahead + "if a then b", "then"}, {ahead + "if a then b else", ";"}, {ahead + "if a then b else c", "else"}, {ahead + "assert", "in"}, {ahead + "assert a", ";"}, {ahead + "assert a", "then"}, {ahead + "assert a in", ";"},
		// Calls.
		{ahead + "f(", ","}, {ahead + "f(", ";"}, {ahead + "f(a", ";"}, {ahead + "f(a", "b"}, {ahead + "f(a,", ")"}, {ahead + "f(a,", ","}, {ahead + "f(a", "in"}, {ahead + "f(a", "}"},
		{ahead + "get", "a"}, {ahead + "get", ";"}, {ahead + "get(", ")"}, {ahead + "get(", ","}, {ahead + "get(a", ")"}, {ahead + "get(a", ";"}, {ahead + "get(a,", ")"}, {ahead + "get(a, b", ";"}, {ahead + "get(a, b", "c"}, {ahead + "get(a, b,", ")"}, {ahead + "get(a, b,", ","},
		{ahead + "set", "+"}, {ahead + "set(", ")"}, {ahead + "set(a", ")"}, {ahead + "set(a, b", ")"}, {ahead + "set(a, b", ";"}, {ahead + "set(a, b, c", ";"}, {ahead + "set(a, b, c,", ")"},
		{ahead + "len", ")"}, {ahead + "len", "1"}, {ahead + "len(", ")"}, {ahead + "len(a", ";"}, {ahead + "len(a,", ")"}, {ahead + "len(a", "b"},
		{ahead + "fill", "3"}, {ahead + "fill(", ")"}, {ahead + "fill(", "a"}, {ahead + "fill(", "-"}, {ahead + "fill(", "("}, {ahead + "fill(", "true"}, {ahead + "fill(3", ")"}, {ahead + "fill(3", "+"}, {ahead + "fill(3", ";"}, {ahead + "fill(3,", ")"}, {ahead + "fill(3, a", ","}, {ahead + "fill(3, a", ";"},
	} {
		for _, behind := range []string{"", " ", " ;", " 007", "\n// x\nfn", " ) ) 1 ;"} {
			wrong(t, c[0]+" ", c[1], behind, api.ErrExpect)
		}
	}
}

func TestEnds(t *testing.T) {
	for _, s := range []string{
		"pub", "fn", "fn f", "fn f(", "fn f(x", "fn f(x:", "fn f(x: int", "fn f(x: int,", "fn f(x: int)", "fn f(x: arr", "fn f(x: arr 3", "fn f(x: int{", "fn f(x: int{v", "fn f(x: int{v}", "fn f()", "fn f() ->", "fn f() -> int", "fn f() -> bool{true", "qual", "qual q", "qual q(", "qual q(a", "qual q(a,", "qual q(a)", "qual q(a) =", "qual q(a) = 1",
	} {
		ends(t, s)
	}
	for _, s := range []string{
		"", "1", "-", "not", "a", "v", "true", "1 +", "1 + 2", "a <", "a < b", "a and", "(", "(1", "(1)", "f(", "f(1", "f(1,", "f()", "get", "get(", "get(a", "get(a,", "get(a, b", "set(a, b", "set(a, b,", "set(a, b, c", "len", "len(", "len(a", "len(a,", "get(a, b,", "fill", "fill(", "fill(3", "fill(3,", "fill(3, a", "let", "let a", "let a =", "let a = 1", "let a = 1 in", "let a = 1 in 2", "if", "if a", "if a then", "if a then b", "if a then b else", "if a then b else c", "assert", "assert a", "assert a in",
	} {
		ends(t, ahead+s)
	}
}

// TestNoughtsAhead: of a number ErrForm, of a length ErrBig.
func TestNoughtsAhead(t *testing.T) {
	for _, digits := range []string{"00", "01", "007", "0000000", strings.Repeat("0", 40), "0" + strings.Repeat("9", 39)} {
		for _, before := range []string{ahead, ahead + "-", ahead + "1 + ", ahead + "f(", ahead + "get(a, ", ahead + "let a = ", "fn f(x: int{v > ", "fn f() -> arr 3{"} {
			for _, behind := range []string{"", ";", " 1", " 00", ")"} {
				wrong(t, before, digits, behind, api.ErrForm)
			}
		}
		for _, before := range []string{"fn f(x: arr ", "fn f() -> arr ", ahead + "fill(", ahead + "1 + fill( "} {
			for _, behind := range []string{"", ";", " 1", ", 1", ", 00", ")"} {
				wrong(t, before, digits, behind, api.ErrBig)
			}
		}
	}
	parsed(t, ahead+"0 + 10 * 100;")
	parsed(t, "fn f(x: arr 0) -> arr 10 = fill(0, 0);")
	wrong(t, "fn ", "00", "", api.ErrExpect)
	wrong(t, ahead+"1 ", "00", ";", api.ErrExpect)
	wrong(t, ahead+"let ", "00", " = 1", api.ErrExpect)
	wrong(t, ahead+"1;", "00", "", api.ErrMore)
}

func TestLengths(t *testing.T) {
	for digits, n := range map[string]int{"0": 0, "1": 1, "999999": 999999, "1000000": 1000000} {
		it := parsed(t, "fn f(x: arr "+digits+") -> arr "+digits+" = fill("+digits+", 1);")
		if it.Params[0].Type.Len != n || it.Result.Len != n || !same(bareExpr(it.Body), fill(digits, number("1"))) {
			t.Errorf("lengths of %s: %v", digits, it)
		}
	}
	for _, digits := range []string{"1000001", "1000002", "9999999", "10000000", "2147483648", "4294967296", "9223372036854775808", "18446744073709551616", "18446744073709551617", "1" + strings.Repeat("0", 39)} {
		wrong(t, "fn f(x: arr ", digits, ") -> int = 1;", api.ErrBig)
		wrong(t, "fn f() -> arr ", digits, "", api.ErrBig)
		wrong(t, "fn f() -> arr ", digits, " = 00", api.ErrBig)
		wrong(t, ahead+"fill(", digits, ", 1);", api.ErrBig)
		wrong(t, ahead+"fill(", digits, "", api.ErrBig)
		parsed(t, ahead+digits+";")
	}
}

// params are so many, of a function or (without a type) of a qualifier.
func params(n int, typ string) string {
	return strings.TrimSuffix(strings.Repeat("a"+typ+", ", n), ", ")
}

func TestTooManyParams(t *testing.T) {
	for n := range api.MaxParams + 1 {
		if it := parsed(t, "fn f("+params(n, ": int")+") -> int = 1;"); len(it.Params) != n {
			t.Error("parameters of a function:", len(it.Params), n)
		}
	}
	for n := 1; n <= api.MaxQuals; n++ {
		if it := parsed(t, "qual q("+params(n, "")+") = true;"); len(it.Params) != n {
			t.Error("parameters of a qualifier:", len(it.Params), n)
		}
	}
	for _, behind := range []string{"", ": int) -> int = 1;", " 007", ")", ", b", ": arr 00", " ;", ": int, c: int) -> int = 1;"} {
		wrong(t, "fn f("+params(6, ": int")+", ", "more", behind, api.ErrBig)
		wrong(t, "pub fn f("+params(6, ": arr 3{a}")+",", "b", behind, api.ErrBig)
		wrong(t, "qual q("+params(12, "")+", ", "more", behind, api.ErrBig)
	}
	for _, there := range []string{")", "int", "1", ",", "v"} {
		wrong(t, "fn f("+params(6, ": int")+", ", there, ": int", api.ErrExpect)
		wrong(t, "qual q("+params(12, "")+", ", there, ")", api.ErrExpect)
	}
	ends(t, "fn f("+params(6, ": int")+",")
	ends(t, "qual q("+params(12, "")+",")
	wrong(t, "fn f("+params(5, ": int")+", b: arr ", "00", ", c: int, d: int", api.ErrBig)
}

func TestTooManyArguments(t *testing.T) {
	for n := range api.MaxParams + 1 {
		if e := body(t, "f("+params(n, "")+")"); e.Kind != syntax.Call || len(e.Args) != n {
			t.Error("arguments", e, n)
		}
	}
	six := ahead + "1 + f(" + params(6, "") + ", "
	for _, there := range []string{"b", "1", "b + c", "-(b)", "g()", "g(a, b, c)", "let x = 1 in (x)", "(b) * 2", "if a then b else c"} {
		for _, behind := range []string{"", ")", ", c)", ", d, e", ";", " 007"} {
			wrong(t, six, there, behind, api.ErrBig)
			wrong(t, six+"(", there, ")"+behind, api.ErrBig)
			wrong(t, six+"((", there, ") )"+behind, api.ErrBig)
		}
	}
	// What goes wrong within the argument is further to the left than its end.
	wrong(t, six, ")", ";", api.ErrExpect)
	wrong(t, six+"b + ", ")", ";", api.ErrExpect)
	wrong(t, six+"b + ", "00", ");", api.ErrForm)
	wrong(t, six+"g("+params(6, "")+", ", "c", ")", api.ErrBig)
	wrong(t, six+"(b", ",", " c)", api.ErrExpect)
	ends(t, six)
	ends(t, six+"b +")
	ends(t, six+"(b")
}

// TestMoreThanJust: arguments too many of get, set, len are told whole.
func TestMoreThanJust(t *testing.T) {
	for _, before := range []string{"get(a, b, ", "set(a, b, c, ", "len(a, ", "1 + get((a), f(a, b),", "-len(a,"} {
		for _, there := range []string{"b", "1", "b + c", "-(b)", "g(a, b)", "let x = 1 in (x)", "(b) = 2", "get(a, b)"} {
			for _, behind := range []string{"", ")", ", c)", ", d, e", ";", " 007"} {
				wrong(t, ahead+before, there, behind, api.ErrExpect)
				wrong(t, ahead+before+"(", there, ")"+behind, api.ErrExpect)
			}
		}
		wrong(t, ahead+before, "00", "", api.ErrForm)
		wrong(t, ahead+before+"1 + ", "in", "", api.ErrExpect)
		wrong(t, ahead+before+"len(a, ", "b", ")", api.ErrExpect)
		wrong(t, ahead+before+"f("+params(6, "")+", ", "b", ")", api.ErrBig)
		ends(t, ahead+before)
		ends(t, ahead+before+" -")
	}
	wrong(t, ahead+"fill(3, a", ",", " b)", api.ErrExpect)
}

// TestTheFirstIsTold: of two faults the one further to the left.
func TestTheFirstIsTold(t *testing.T) {
	faults := []struct {
		ahead, there, behind string
		e                    api.Errno
	}{
		{"(", ")", "", api.ErrExpect}, {"", "007", "", api.ErrForm}, {"fill(", "1000001", ", 1)", api.ErrBig}, {"f(" + params(6, "") + ", ", "x", ")", api.ErrBig}, {"len(a, ", "b", ")", api.ErrExpect}, {strings.Repeat("-", 56), "1", "", api.ErrDeep}, {"a < b ", "<", " c", api.ErrExpect},
	}
	for _, first := range faults {
		for _, second := range faults {
			for _, sign := range []string{" + ", " and ", " = ", ") (", " 1 "} {
				wrong(t, ahead+"-("+first.ahead, first.there, first.behind+sign+second.ahead+second.there+second.behind+");", first.e)
			}
		}
	}
}
