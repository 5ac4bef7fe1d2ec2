package syntax_test

import (
	"slices"
	"strings"
	"testing"

	"whetstone/api"
	"whetstone/big"
	"whetstone/syntax"
)

// TestShowByHand: what is written otherwise is shown so.
func TestShowByHand(t *testing.T) {
	for s, want := range map[string]string{
		"0": "0", "(7)": "7", "a": "a", "v": "v", "true": "true", "((false))": "false", "f ( )": "f()", "f(a,b , 1)": "f(a, b, 1)", "f((a),(b+1))": "f(a, b + 1)", "f((let a = 1 in a), 2)": "f(let a = 1 in a, 2)",
		"- 1": "-1", "-(1)": "-1", "- - a": "--a", "-(-(a))": "--a", "not(a)": "not a", "not(not(a))": "not not a", "-(not a)": "-not a", "not(-a)": "not -a", "not f(a)": "not f(a)", "-(f(a))": "-f(a)",
		"a+b": "a + b", "a-b": "a - b", "a*b": "a * b", "a/b": "a / b", "a%b": "a % b", "a=b": "a = b", "a!=b": "a != b", "a<b": "a < b", "a<=b": "a <= b", "a>b": "a > b", "a>=b": "a >= b", "a  and  b": "a and b", "(a)or(b)": "a or b",
		"(a+b)+c": "a + b + c", "a+(b+c)": "a + (b + c)", "(a-b)-c": "a - b - c", "a-(b-c)": "a - (b - c)", "a-(b+c)": "a - (b + c)", "(a-b)+c": "a - b + c", "a*(b*c)": "a * (b * c)", "(a*b)/c": "a * b / c", "a/(b*c)": "a / (b * c)", "a%(b%c)": "a % (b % c)",
		"(a*b)+c": "a * b + c", "a+(b*c)": "a + b * c", "(a+b)*c": "(a + b) * c", "a*(b+c)": "a * (b + c)", "(a+b)*(c-d)": "(a + b) * (c - d)",
		"(a<b)and(c<d)": "a < b and c < d", "a<(b+c)": "a < b + c", "(a+b)=(c*d)": "a + b = c * d", "(a<b)<c": "(a < b) < c", "a=(b=c)": "a = (b = c)", "(a=b)!=(c=d)": "(a = b) != (c = d)", "(a and b)=c": "(a and b) = c", "a=(b or c)": "a = (b or c)", "a+(b<c)": "a + (b < c)",
		"(a and b)and c": "a and b and c", "a and(b and c)": "a and (b and c)", "(a and b)or c": "a and b or c", "a or(b and c)": "a or b and c", "(a or b)and c": "(a or b) and c", "a and(b or c)": "a and (b or c)", "(a or b)or c": "a or b or c", "a or(b or c)": "a or (b or c)",
		"-(a+b)": "-(a + b)", "(-a)+b": "-a + b", "-(a*b)": "-(a * b)", "(-a)*b": "-a * b", "a*(-b)": "a * -b", "a-(-b)": "a - -b", "not(a and b)": "not (a and b)", "(not a)and b": "not a and b", "not(a=b)": "not (a = b)", "(not a)=b": "not a = b", "a = (not b)": "a = not b", "-(a<b)": "-(a < b)",
		"let a=1in b": "let a = 1 in b", "(let a=(1)in(b))": "let a = 1 in b", "let a=(let b=1 in b)in a": "let a = let b = 1 in b in a", "let a=1 in(let b=2 in a+b)": "let a = 1 in let b = 2 in a + b", "let a=(b=c)in a": "let a = b = c in a",
		"if(a)then(b)else(c)": "if a then b else c", "if(if a then b else c)then(if a then b else c)else(if a then b else c)": "if if a then b else c then if a then b else c else if a then b else c", "assert(a=b)in(c)": "assert a = b in c", "assert(assert a in b)in(assert c in d)": "assert assert a in b in assert c in d",
		"1+(let a=1 in a)": "1 + (let a = 1 in a)", "(let a=1 in a)+1": "(let a = 1 in a) + 1", "let a=1 in a+1": "let a = 1 in a + 1", "-(if a then b else c)": "-(if a then b else c)", "not(assert a in b)": "not (assert a in b)", "(if a then b else c)=(assert a in b)": "(if a then b else c) = (assert a in b)", "a and(let a=1 in a)": "a and (let a = 1 in a)", "a or(if a then b else c)": "a or (if a then b else c)",
		"get(a,b)": "get(a, b)", "set ( a , b , (c) )": "set(a, b, c)", "len((a))": "len(a)", "fill(3,(a+b))": "fill(3, a + b)", "get(if a then b else c,(let a=1 in a))": "get(if a then b else c, let a = 1 in a)", "-get(a,-1)": "-get(a, -1)", "len(a)*(len(b)*2)": "len(a) * (len(b) * 2)",
		"a // x\n + // y\n b": "a + b",
	} {
		e := body(t, s)
		if got := syntax.Show(e); got != want {
			t.Errorf("%q is shown %q, not %q", s, got, want)
		}
		if got := syntax.Show(syntax.Bare(e)); got != want {
			t.Errorf("%q, without Spans, is shown %q", s, got)
		}
		if again := body(t, want); !syntax.Equal(e, again) {
			t.Errorf("%q, shown %q, is %v", s, want, again)
		}
	}
}

func TestPrintByHand(t *testing.T) {
	for s, want := range map[string]string{
		"fn f()->int=1;":                                                       "fn f() -> int = 1;",
		"pub fn f ( ) -> bool = true ; // x":                                   "pub fn f() -> bool = true;",
		"fn f(x:int,y:bool,z:arr 3)->arr 1000000=z;":                           "fn f(x: int, y: bool, z: arr 3) -> arr 1000000 = z;",
		"fn f(x:int{v>0},y:int{(v>x)})->int{v=x+y}=(x+y);":                     "fn f(x: int{v > 0}, y: int{v > x}) -> int{v = x + y} = x + y;",
		"pub\nfn g(x : bool { not v }) -> arr 0 { true } = let a = x in g(a);": "pub fn g(x: bool{not v}) -> arr 0{true} = let a = x in g(a);",
		"qual q(a)=a>0;":                                                       "qual q(a) = a > 0;",
		"qual q ( a , b , c ) = a<=b and(b<c);":                                "qual q(a, b, c) = a <= b and b < c;",
		"qual q(a) = if a then b else c;":                                      "qual q(a) = if a then b else c;",
	} {
		if got := syntax.Print(parsed(t, s)); got != want {
			t.Errorf("%q is printed %q, not %q", s, got, want)
		}
	}
}

func TestShowTypeByHand(t *testing.T) {
	for _, s := range []string{"int", "bool", "arr 0", "arr 7", "arr 1000000", "int{v > 0}", "bool{v = (1 < 2)}", "arr 5{true}", "int{let a = 1 in a}", "int{-v}"} {
		it := parsed(t, "fn f(x: "+s+") -> "+s+" = 1;")
		for _, got := range []string{syntax.ShowType(it.Params[0].Type), syntax.ShowType(it.Result)} {
			if got != s {
				t.Errorf("the type %q is shown %q", s, got)
			}
		}
	}
}

// TestPrintedIsParsed is the first half of P9.2.
func TestPrintedIsParsed(t *testing.T) {
	m := newMaker(8)
	for range 5000 {
		it, s, _ := m.made(14)
		printed := syntax.Print(it)
		if again := parsed(t, printed); !sameItem(bareItem(again), bareItem(it)) {
			t.Fatalf("%q, printed %q, is another one", s, printed)
		}
		if again := syntax.Print(parsed(t, printed)); again != printed {
			t.Fatalf("%q is printed %q", printed, again)
		}
		if got := syntax.Show(it.Body); !strings.HasSuffix(printed, " = "+got+";") {
			t.Fatalf("%q has the Body %q", printed, got)
		}
		if got := syntax.ShowType(it.Result); it.Kind == syntax.Fn && !strings.Contains(printed, ") -> "+got+" = ") {
			t.Fatalf("%q has the Result %q", printed, got)
		}
	}
}

// TestPrintedDeepIsParsed: of trees as deep as may be.
func TestPrintedDeepIsParsed(t *testing.T) {
	m := newMaker(9)
	for i := range 500 {
		n := m.toDepth(starts()[i%4], api.MaxDepth-2)
		it := parsed(t, n.text+"1"+n.behind)
		if again := parsed(t, syntax.Print(it)); !sameItem(bareItem(again), bareItem(it)) {
			t.Fatalf("%q is printed %q", n.text+"1"+n.behind, syntax.Print(it))
		}
	}
}

// spaced is how tokens of a text that is printed stand beside each other.
func spaced(tokens []string) string {
	both := strings.Fields("= != < <= > >= + * / % and or -> in then else")
	behind := strings.Fields("fn pub qual let if assert arr not , :")
	var s strings.Builder
	due, value := false, false // is a blank due? did a value end?
	for i, token := range tokens {
		between := slices.Contains(both, token) || token == "-" && value
		if (due || between) && i > 0 {
			s.WriteString(" ")
		}
		s.WriteString(token)
		due = between || slices.Contains(behind, token)
		value = token == ")" || token == "v" || token == "true" || token == "false" || inName(token[0]) && !isKeyword(token)
	}
	return s.String()
}

func isKeyword(s string) bool {
	return slices.Contains(strings.Fields("fn pub qual let in if then else assert not and or arr int bool get set len fill"), s)
}

// TestBlanks: no blank but those that the chapter names.
func TestBlanks(t *testing.T) {
	m := newMaker(10)
	for range 5000 {
		it, _, _ := m.made(10)
		printed := syntax.Print(it)
		if want := spaced(tokenTexts(t, printed)); printed != want {
			t.Fatalf("%q is printed so, not %q", printed, want)
		}
	}
}

// bracketed is an expression's text with brackets around all that may have
// some.
func bracketed(e expr) string {
	var l []string
	for _, part := range e.Args {
		l = append(l, bracketed(part))
	}
	sign := syntax.Show(expr{Kind: e.Kind})
	switch e.Kind {
	case syntax.Neg:
		return "( - " + l[0] + " )"
	case syntax.Not:
		return "( not " + l[0] + " )"
	case syntax.Let:
		return "( let " + e.Name + " = " + l[0] + " in " + l[1] + " )"
	case syntax.If:
		return "( if " + l[0] + " then " + l[1] + " else " + l[2] + " )"
	case syntax.Assert:
		return "( assert " + l[0] + " in " + l[1] + " )"
	case syntax.Call:
		return "( " + e.Name + "( " + strings.Join(l, " , ") + " ) )"
	case syntax.Get, syntax.Set, syntax.Len:
		return "( " + sign[:3] + "( " + strings.Join(l, " , ") + " ) )"
	case syntax.Fill:
		return "( fill( " + big.Text(e.Num) + " , " + l[0] + " ) )"
	case syntax.Num, syntax.True, syntax.False, syntax.Var:
		return "( " + syntax.Show(e) + " )"
	}
	return "( " + l[0] + strings.TrimSuffix(strings.TrimPrefix(sign, "0"), "0") + l[1] + " )"
}

// partner: where the bracket is that closes the one at a place.
func partner(l []string, at int) int {
	open := 0
	for i := at; ; i++ {
		if strings.HasSuffix(l[i], "(") {
			open++
		}
		if l[i] == ")" {
			open--
		}
		if open == 0 {
			return i
		}
	}
}

// TestBrackets: only where the tree would be another one without: of a text
// with all brackets that may be, each pair that changes nothing is taken away.
func TestBrackets(t *testing.T) {
	m := newMaker(11)
	for range 1500 {
		m.tokens = m.tokens[:0]
		e := m.expr(6)
		l := strings.Fields(bracketed(e))
		for i := 0; i < len(l); i++ {
			if l[i] != "(" {
				continue
			}
			end := partner(l, i)
			less := slices.Concat(l[:i], l[i+1:end], l[end+1:])
			it, _, err := parse(ahead + strings.Join(less, " ") + ";")
			if err == api.OK && syntax.Equal(it.Body, e) {
				l = less
				i--
			}
		}
		want := spaced(tokenTexts(t, strings.Join(l, " ")))
		if got := syntax.Show(e); got != want {
			t.Fatalf("shown %q, not %q", got, want)
		}
	}
}

// TestShowOfOtherTrees: what isn't there counts as the number 0.
func TestShowOfOtherTrees(t *testing.T) {
	zero := number("0")
	counts := map[int]int{syntax.Neg: 1, syntax.Not: 1, syntax.Let: 2, syntax.If: 3, syntax.Assert: 2, syntax.Get: 2, syntax.Set: 3, syntax.Len: 1, syntax.Fill: 1}
	for kind := syntax.Add; kind <= syntax.Or; kind++ {
		counts[kind] = 2
	}
	a := name("a")
	for kind, count := range counts {
		for have := range count {
			less, whole := expr{Kind: kind, Name: "x"}, expr{Kind: kind, Name: "x"}
			for i := range count {
				if i < have {
					less.Args, whole.Args = append(less.Args, a), append(whole.Args, a)
				} else {
					whole.Args = append(whole.Args, zero)
				}
			}
			if got, want := syntax.Show(less), syntax.Show(whole); got != want || !strings.Contains(got, "0") {
				t.Errorf("the kind %d with %d parts is shown %q, not %q", kind, have, got, want)
			}
		}
	}
	for want, e := range map[string]expr{
		"0": {}, "0 + 0": of(syntax.Add), "a - 0": of(syntax.Sub, a), "-0": of(syntax.Neg), "if 0 then 0 else 0": of(syntax.If), "let x = 0 in 0": {Kind: syntax.Let, Name: "x"}, "fill(0, 0)": of(syntax.Fill), "set(a, 0, 0)": of(syntax.Set, a), "f()": call("f"), "f(0)": call("f", expr{}), "0 * (0 + 0)": of(syntax.Mul, expr{}, of(syntax.Add)), "not 0": of(syntax.Not, expr{}),
	} {
		if got := syntax.Show(e); got != want {
			t.Errorf("%v is shown %q, not %q", e, got, want)
		}
	}
	if got := syntax.Print(item{Kind: syntax.Fn, Name: "f", Result: typ(api.Int)}); got != "fn f() -> int = 0;" {
		t.Errorf("an item without a Body is printed %q", got)
	}
	if got := syntax.ShowType(typ(api.Int, expr{})); got != "int{0}" {
		t.Errorf("a type with a predicate that isn't there is shown %q", got)
	}
}

// TestOddTrees: no call panics, whatever the tree.
func TestOddTrees(t *testing.T) {
	m := newMaker(12)
	var odd func(deep int) expr
	odd = func(deep int) expr {
		e := expr{Kind: m.Intn(32) - 2, Name: m.one("", "a", "1", "(", "\xff"), Num: big.Of(int64(m.Intn(9) - 4)), Span: api.Span{From: m.Intn(9), To: m.Intn(9)}}
		for range m.Intn(4) {
			if deep > 0 {
				e.Args = append(e.Args, odd(deep-1))
			}
		}
		return e
	}
	for range 3000 {
		e := odd(4)
		if syntax.Show(e) == "" && e.Name != "" {
			t.Fatalf("nothing is shown of %v", e)
		}
		if b := syntax.Bare(e); !same(b, bareExpr(e)) || !syntax.Equal(b, e) || syntax.Show(b) != syntax.Show(e) {
			t.Fatalf("Bare(%v) = %v", e, b)
		}
		it := item{Kind: m.Intn(5) - 1, Params: []syntax.Param{{Type: syntax.Type{Base: m.Intn(6) - 1, Len: m.Intn(9) - 4, Pred: []expr{e, e}[:m.Intn(3)]}}}, Body: e}
		if syntax.Print(it) == "" || syntax.ShowType(it.Params[0].Type) == "" {
			t.Fatalf("nothing is printed of %v", it)
		}
	}
}

// TestLongRows: as long as a text may be, and leaning as far to the left.
func TestLongRows(t *testing.T) {
	for _, sign := range []string{" + ", " * ", " and ", " or "} {
		s := "a" + strings.Repeat(sign+"a", 100000)
		e := body(t, s)
		if syntax.Show(e) != s {
			t.Fatal("a long row is shown otherwise")
		}
		b := syntax.Bare(e)
		other := body(t, strings.Replace(s, "a", "b", 1))
		if !syntax.Equal(b, e) || syntax.Equal(b, other) || b.Span != (api.Span{}) {
			t.Fatal("a long row without Spans is another one")
		}
	}
}
