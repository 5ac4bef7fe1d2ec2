package gen_test

import (
	"slices"
	"strings"
	"testing"

	"whetstone/base"
	"whetstone/gen"
	"whetstone/syntax"
)

// named is the place of an item in a list.
func named(l []item, name string) int {
	return slices.IndexFunc(l, func(it item) bool { return it.Kind == syntax.Fn && it.Name == name })
}

// TestAlone: a function's conditions hang on its item and on the heads of those that
// it calls alone: not on bodies, on other items, on their order.
func TestAlone(t *testing.T) {
	for seed := range int64(400) {
		m := newMaker(20000 + seed)
		items := itemsOf(t, m.text())
		other := itemsOf(t, m.text()) // of the same names and kinds
		i := named(items, "f")
		want := gen.Function(base.New(items), i)
		changed := slices.Clone(items)
		for k := range changed {
			if k != i {
				changed[k].Body = other[named(other, changed[k].Name)].Body
			}
		}
		changed = slices.DeleteFunc(changed, func(it item) bool {
			return it.Name != "f" && !slices.Contains(base.Calls(items[i]), it.Name)
		})
		changed = append(changed, itemsOf(t, "qual f(a) = a > 0; fn zz(f: int) -> int = f; qual num(a, b) = a = b;")...)
		m.Shuffle(len(changed), func(a, b int) { changed[a], changed[b] = changed[b], changed[a] })
		if d := difference(gen.Function(base.New(changed), named(changed, "f")), want); d != "" {
			t.Fatalf("%s\n%s", syntax.Print(items[i]), d)
		}
	}
}

// TestSpans: they are of the item's bytes, whatever stands ahead of it or in it, and
// nothing else hangs on blanks and remarks.
func TestSpans(t *testing.T) {
	const text = "fn f(x: int) -> int = assert x > 0 in 1 / x;"
	wide := " // x\n" + strings.NewReplacer(" ", " \n ").Replace(text)
	want := gen.Function(base.New([]item{parsed(t, text)}), 0)
	got := gen.Function(base.New([]item{parsed(t, wide)}), 0)
	if len(got) != 3 {
		t.Fatal(got)
	}
	for i, c := range got {
		have := strings.Join(strings.Fields(wide[c.Span.From:c.Span.To]), " ")
		if asked := text[want[i].Span.From:want[i].Span.To]; have != asked {
			t.Errorf("the span of condition %d is %q, not %q", i, have, asked)
		}
		got[i].Span = want[i].Span
	}
	if d := difference(got, want); d != "" {
		t.Error(d)
	}
}

// TestHeads: a head that is called says what must hold, and what is known.
func TestHeads(t *testing.T) {
	const f = "pub fn f(x: int) -> int{v > 0} = g(x);"
	const out = "14 `g(x)` <-1*x1+1>"
	answers(t, "pub fn g(n: int) -> int = n; "+f, out)
	answers(t, "fn g(n: int) -> int = n; "+f, "13 `x` g.0(1*x0)", out+" ; g.-1(1*x1, 1*x0)")
	answers(t, "fn g(m: int) -> int = m; "+f, "13 `x` g.0(1*x0)", out+" ; g.-1(1*x1, 1*x0)")
	answers(t, "fn g(n: int{v < 3}) -> int = n; "+f, "13 `x` <1*x0-2>", out+" ; g.-1(1*x1, 1*x0)")
	answers(t, "fn g(n: int) -> int{v = n} = n; "+f, "13 `x` g.0(1*x0)", out+" ; all(<-1*x0+1*x1>, <1*x0-1*x1>)")
	// What is the strongest to be found may lean on the places ahead of it alone.
	answers(t, "fn g(n: int, m: int) -> int = n; pub fn f(x: int) -> int{v > 0} = g(2 * x, x + 1);",
		"13 `2 * x` g.0(2*x0)", "13 `x + 1` g.1(1*x0+1, 2*x0)", "14 `g(2 * x, x + 1)` <-1*x1+1> ; g.-1(1*x1, 2*x0, 1*x0+1)")
}
