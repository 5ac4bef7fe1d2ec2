package base_test

import (
	"slices"
	"strings"
	"testing"

	"whetstone/api"
	"whetstone/base"
	"whetstone/lex"
	"whetstone/syntax"
)

type (
	expr = syntax.Expr
	item = syntax.Item
)

func parsed(t *testing.T, s string) item {
	t.Helper()
	it, at, e := syntax.Parse([]byte(s))
	if e != api.OK {
		t.Fatalf("Parse(%q): %v, %d", s, at, e)
	}
	return it
}

// split is a text's items, each with what stands ahead of it.
func split(s string) []string {
	var l []string
	for span := range lex.Items([]byte(s)) {
		l = append(l, s[span.From:span.To])
	}
	return l
}

func itemsOf(t *testing.T, texts ...string) []item {
	t.Helper()
	var l []item
	for _, s := range texts {
		l = append(l, parsed(t, s))
	}
	return l
}

func tableOf(t *testing.T, s string) *base.Table {
	t.Helper()
	return base.New(itemsOf(t, split(s)...))
}

// exprOf is an expression of a text, alone.
func exprOf(t *testing.T, s string) expr {
	t.Helper()
	return parsed(t, "fn f() -> int = "+s+";").Body
}

// unmarked is a text without its marks, [ ahead of the fault and ] behind it,
// and the bytes between them.
func unmarked(s string) (string, api.Span, bool) {
	ahead, rest, has := strings.Cut(s, "[")
	if !has {
		return s, api.Span{}, false
	}
	there, behind, has := strings.Cut(rest, "]")
	if !has || strings.ContainsAny(behind, "[]") {
		panic("marks of " + s)
	}
	return ahead + there + behind, api.Span{From: len(ahead), To: len(ahead) + len(there)}, true
}

// checks: in a text's items Check finds what is marked in them, as that error,
// and in those without marks nothing, whatever stands ahead of the items.
func checks(t *testing.T, s string, e api.Errno) {
	t.Helper()
	for _, ahead := range []string{"", " // ; [\n\t"} {
		var plain []string
		var spans []api.Span
		var bad []bool
		for _, one := range split(s) {
			one, span, marked := unmarked(one)
			if marked {
				span = api.Span{From: span.From + len(ahead), To: span.To + len(ahead)}
			}
			plain, spans, bad = append(plain, ahead+one), append(spans, span), append(bad, marked)
		}
		if (e == api.OK) == slices.Contains(bad, true) {
			t.Fatalf("the marks of %q", s)
		}
		table := base.New(itemsOf(t, plain...))
		for i := range plain {
			want := base.Fault{}
			if bad[i] {
				want = base.Fault{Item: i, Span: spans[i], E: e}
			}
			if f, is := table.Check(i); f != want || is != bad[i] {
				t.Errorf("Check of item %d of %q = %v, %v, not %v, %v", i, s, f, is, want, bad[i])
			}
		}
	}
}

// right: no item of a text has a fault.
func right(t *testing.T, s string) {
	t.Helper()
	checks(t, s, api.OK)
}

// others are functions that can be called in the items of tests, of each kind
// of parameters and results.
const others = "fn num() -> int = 7; fn yes() -> bool = true; fn three() -> arr 3 = fill(3, 0); fn mix(n: int, t: bool, a: arr 3) -> arr 2 = fill(2, n); "

// head is that of a function with names of each kind, as far as its result.
const head = "fn f(n: int, m: int, t: bool, u: bool, a: arr 3, c: arr 2) -> "

// inBody is a text whose last item has an expression as its Body.
func inBody(result, e string) string { return others + head + result + " = " + e + ";" }

// inPreds are texts whose last item has an expression as the predicate of a
// parameter, or of a result, that knows n, m, t, u and a.
func inPreds(e string) []string {
	return []string{
		others + "fn f(n: int, m: int, t: bool, u: bool, a: arr 3, x: int{" + e + "}) -> int = 0;",
		others + head + "int{" + e + "} = 0;",
		others + "pub " + head + "bool{" + e + "} = t;",
	}
}

// filled is a text with a part for each $ of it.
func filled(text string, parts ...string) string {
	for _, part := range parts {
		text = strings.Replace(text, "$", part, 1)
	}
	return text
}

// plain is an expression's text without marks.
func plain(e string) string { return strings.NewReplacer("[", "", "]", "").Replace(e) }
