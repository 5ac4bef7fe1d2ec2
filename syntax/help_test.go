package syntax_test

import (
	"reflect"
	"testing"

	"whetstone/api"
	"whetstone/big"
	"whetstone/lex"
	"whetstone/syntax"
)

type (
	expr = syntax.Expr
	item = syntax.Item
)

func number(s string) expr {
	n, e := big.Parse(s)
	if e != api.OK {
		panic(s)
	}
	return expr{Kind: syntax.Num, Num: n}
}

func name(s string) expr                  { return expr{Kind: syntax.Var, Name: s} }
func of(kind int, args ...expr) expr      { return expr{Kind: kind, Args: args} }
func call(name string, args ...expr) expr { return expr{Kind: syntax.Call, Name: name, Args: args} }

func let(name string, is, in expr) expr {
	return expr{Kind: syntax.Let, Name: name, Args: []expr{is, in}}
}

func fill(count string, of ...expr) expr {
	return expr{Kind: syntax.Fill, Num: number(count).Num, Args: of}
}

// at is the same tree with a Span.
func at(from, to int, e expr) expr {
	e.Span = api.Span{From: from, To: to}
	return e
}

func typ(base int, pred ...expr) syntax.Type {
	return syntax.Type{Base: base, Pred: pred}
}

// tidy makes empty lists nil, so that the library can hold trees against each
// other field by field.
func tidy(e expr) expr {
	e.Num.Mag = append([]uint32(nil), e.Num.Mag...)
	args := e.Args
	e.Args = nil
	for _, part := range args {
		e.Args = append(e.Args, tidy(part))
	}
	return e
}

func tidyType(t syntax.Type) syntax.Type {
	pred := t.Pred
	t.Pred = nil
	for _, e := range pred {
		t.Pred = append(t.Pred, tidy(e))
	}
	return t
}

func tidyItem(it item) item {
	params := it.Params
	it.Params = nil
	for _, p := range params {
		p.Type = tidyType(p.Type)
		it.Params = append(it.Params, p)
	}
	it.Result, it.Body = tidyType(it.Result), tidy(it.Body)
	return it
}

// same: Spans and all.
func same(a, b expr) bool     { return reflect.DeepEqual(tidy(a), tidy(b)) }
func sameItem(a, b item) bool { return reflect.DeepEqual(tidyItem(a), tidyItem(b)) }

// spans goes through all Spans of an item that is the caller's own.
func spans(it *item, f func(s *api.Span)) {
	var ofExpr func(e *expr)
	ofExpr = func(e *expr) {
		f(&e.Span)
		for i := range e.Args {
			ofExpr(&e.Args[i])
		}
	}
	ofType := func(t *syntax.Type) {
		f(&t.Span)
		for i := range t.Pred {
			ofExpr(&t.Pred[i])
		}
	}
	f(&it.At)
	for i := range it.Params {
		f(&it.Params[i].Span)
		ofType(&it.Params[i].Type)
	}
	ofType(&it.Result)
	ofExpr(&it.Body)
}

// bareItem is an item without its Spans.
func bareItem(it item) item {
	it = tidyItem(it)
	spans(&it, func(s *api.Span) { *s = api.Span{} })
	return it
}

// bareExpr is the test's own Bare.
func bareExpr(e expr) expr { return bareItem(item{Body: e}).Body }

// isNothing: does Parse answer an item's zero value?
func isNothing(it item) bool { return sameItem(it, item{}) }

func parse(s string) (item, api.Span, api.Errno) { return syntax.Parse([]byte(s)) }

func parsed(t *testing.T, s string) item {
	t.Helper()
	it, at, e := syntax.Parse([]byte(s))
	if at != (api.Span{}) || e != api.OK {
		t.Fatalf("Parse(%q): %v, %d", s, at, e)
	}
	return it
}

// body is what an expression's text means.
func body(t *testing.T, s string) expr {
	t.Helper()
	return parsed(t, "fn f() -> int = "+s+";").Body
}

func fails(t *testing.T, s string, from, to int, want api.Errno) {
	t.Helper()
	it, at, e := syntax.Parse([]byte(s))
	if at != (api.Span{From: from, To: to}) || e != want || !isNothing(it) {
		t.Errorf("Parse(%q) = %v, %v, %d, not {%d %d}, %d", s, it, at, e, from, to, want)
	}
}

// wrong: Parse tells the error at a text that stands between two others.
func wrong(t *testing.T, ahead, there, behind string, e api.Errno) {
	t.Helper()
	fails(t, ahead+there+behind, len(ahead), len(ahead)+len(there), e)
}

// ends: the text ends too early, also if blanks and remarks stand at its end.
func ends(t *testing.T, s string) {
	t.Helper()
	for _, behind := range []string{"", " ", " \n", " // ;"} {
		fails(t, s+behind, len(s+behind), len(s+behind), api.ErrEnds)
	}
}

// tokenTexts are the texts of a text's tokens.
func tokenTexts(t *testing.T, s string) []string {
	t.Helper()
	l, at, e := lex.Tokens([]byte(s))
	if e != api.OK {
		t.Fatalf("Tokens(%q): %d, %d", s, at, e)
	}
	var out []string
	for _, token := range l[:len(l)-1] {
		out = append(out, token.Text)
	}
	return out
}

// allKinds is one tree of each kind, as Parse makes them.
func allKinds() []expr {
	a, b, c := name("a"), number("12345678901234567890"), of(syntax.True)
	l := []expr{a, b, c, of(syntax.False), name("v"), call("f"), call("f", a, b, c), of(syntax.Neg, a), of(syntax.Not, c), let("x", a, b), of(syntax.If, c, a, b), of(syntax.Assert, c, a), of(syntax.Get, a, b), of(syntax.Set, a, b, c), of(syntax.Len, a), fill("7", b)}
	for kind := syntax.Add; kind <= syntax.Or; kind++ {
		l = append(l, of(kind, a, b))
	}
	return l
}
