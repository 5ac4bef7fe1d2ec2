package horn_test

import (
	"testing"

	"whetstone/api"
	"whetstone/formula"
	"whetstone/gen"
	"whetstone/horn"
	"whetstone/linear"
)

const loop = "qual p(a) = a >= 0; fn f(x: int) -> int = if x <= 0 then 0 else f(x - 1);"

// TestExample is the chapter's own one.
func TestExample(t *testing.T) {
	answers(t, loop+"pub fn g(n: int{v >= 0}) -> int = f(n);", "f.-1: p(); f.0: p()")
}

// TestSolve: by hand.
func TestSolve(t *testing.T) {
	// Nobody calls it with anything below 0; somebody does; nobody calls it at all.
	answers(t, loop+"pub fn g(n: int) -> int = f(n);", "f.-1: p()")
	answers(t, loop, "f.-1: p(); f.0: p()")
	answers(t, loop+"pub fn g() -> int = f(3) + f(-1);", "f.-1: p()")
	// What can't be, of a function that nobody calls, and that never answers.
	answers(t, "qual p(a) = a > 0; qual n(a) = a < 0; fn f(x: int) -> int = f(x);", "f.-1: p() n(); f.0: p() n()")
	answers(t, "qual p(a) = a > 0; qual n(a) = a < 0; pub fn g(x: int) -> int = f(x); fn f(x: int) -> int = f(x);", "f.-1: p() n()")
	// A result by parameters, each by those ahead.
	answers(t, "qual s(a, b, c) = a = b + c; qual l(a, b) = a <= b; fn f(x: int, y: int) -> int = x + y; pub fn g(x: int{v > 3}, y: int{v < x}) -> int = f(x, y);",
		"f.-1: s(0 1) s(1 0); f.1: l(0)")
	// Around a ring.
	answers(t, `qual p(a) = a >= 0; qual o(a) = a >= 1; qual t(a) = a >= 2;
		fn f(x: int) -> int = if x > 5 then x else g(x + 1); fn g(x: int) -> int = if x > 9 then f(x - 2) else f(x); pub fn h(x: int{v > 0}) -> int = f(x);`,
		"f.-1: p() o() t(); f.0: p() o(); g.-1: p() o() t(); g.0: p() o() t()")
	// Along a way that goes against the items' order.
	answers(t, `qual z(a) = a = 0; qual p(a) = a >= 0; fn c(x: int) -> int = x; fn b(x: int) -> int = c(x); fn a(x: int) -> int = b(x); pub fn g(x: int{v >= 0}) -> int = a(x) + a(0);`,
		"a.-1: p(); a.0: p(); b.-1: p(); b.0: p(); c.-1: p(); c.0: p()")
	// What is known behind a branch is known for that case.
	answers(t, "qual p(a) = a >= 0; fn f(x: int) -> int = x; pub fn g(x: int) -> int = if x >= 0 then f(x) else f(-x);", "f.-1: p(); f.0: p()")
	answers(t, "qual p(a) = a >= 0; fn f(x: int) -> int = x; pub fn g(x: int) -> int = f(if x > 0 then x else f(-x));", "f.-1: p(); f.0: p()")
	answers(t, "qual p(a) = a >= 0; fn f(x: int) -> int = x; pub fn g(x: int, b: bool) -> int = f(if b then f(2) else x);", "")
	// Of products the solver knows that they are some function's.
	answers(t, "qual e(a, b) = a = b; fn f(x: int, y: int) -> int = x; pub fn g(x: int, y: int) -> int = f(x * y, x * y) + f(x / 2, x / 2);", "f.-1: e(0) e(1); f.1: e(0)")
	// No qualifier, no open place.
	answers(t, "fn f(x: int) -> int = f(x);", "")
	answers(t, "qual p(a) = a > 0; pub fn f(x: int) -> int = f(x); fn g(x: int{v > 0}) -> bool = true;", "")
}

// TestOtherPlacesStay: only places that are named are sought, by what is said of the
// others, whatever that is.
func TestOtherPlacesStay(t *testing.T) {
	table := rightTable(t, "qual p(a) = a >= 0; qual n(a) = a < 0; qual s(a, b) = a = b; fn f(x: int) -> int = g(x); fn g(x: int) -> int = x; pub fn h() -> int = f(-1);")
	f, g := kap{Fn: "f", Pos: gen.Result}, kap{Fn: "g", Pos: gen.Result}
	fx, gx := kap{Fn: "f", Pos: 0}, kap{Fn: "g", Pos: 0}
	for _, c := range []struct {
		is     sol
		places []kap
		want   string
	}{
		{sol{}, []kap{f}, ""},
		{sol{g: {{Qual: 0}}}, []kap{f}, "f.-1: p(); g.-1: p()"},
		{sol{g: {{Qual: 2, At: []int{0}}}, fx: {{Qual: 1}}}, []kap{f}, "f.-1: n() s(0); f.0: n(); g.-1: s(0)"},
		// What is said of a place ahead is forgotten.
		{sol{f: {{Qual: 0}}}, []kap{f}, ""},
		{sol{f: {{Qual: 0}}, gx: {{Qual: 1}}, g: {{Qual: 0}}}, []kap{f, g}, "f.-1: n() s(0); g.-1: n() s(0); g.0: n()"},
		{sol{}, []kap{fx}, "f.0: n()"},
		{sol{}, []kap{gx}, ""},
		{sol{}, []kap{gx, fx, gx, fx}, "f.0: n(); g.0: n()"},
		{sol{}, []kap{gx, fx, f, g}, "f.-1: n() s(0); f.0: n(); g.-1: n() s(0); g.0: n()"},
		{sol{g: {{Qual: 0}}}, nil, "g.-1: p()"},
		// What isn't a qualifier, or doesn't fit, says nothing.
		{sol{g: {{Qual: 9}, {Qual: 2}, {Qual: 0, At: []int{0}}}}, []kap{f}, "g.-1: () s() p(0)"},
	} {
		got := copied(c.is)
		horn.New().Solve(table, partsOf(table), c.places, got)
		if text := solText(table, got); text != c.want {
			t.Errorf("%v: got %s, not %s", c.places, text, c.want)
		}
	}
}

// TestPlacesWithoutConditions: all that is tried holds of them.
func TestPlacesWithoutConditions(t *testing.T) {
	table := rightTable(t, "qual p(a) = a >= 0; qual n(a) = a < 0; fn f(x: int) -> int = x; pub fn g(x: int) -> int = f(x);")
	fx := kap{Fn: "f", Pos: 0}
	s := sol{}
	horn.New().Solve(table, nil, []kap{fx, {Fn: "nobody"}, {Fn: "f", Pos: 7}}, s)
	if got := solText(table, s); got != "f.0: p() n()" {
		t.Error(got)
	}
	s = sol{}
	horn.New().Solve(table, []horn.Part{{Fn: "f"}, {}}, []kap{fx}, s)
	if got := solText(table, s); got != "f.0: p() n()" {
		t.Error(got)
	}
}

// TestPlacesThatAreNotOpen: whoever names them gets what is tried, as far as the
// conditions that are handed in let it hold.
func TestPlacesThatAreNotOpen(t *testing.T) {
	table := rightTable(t, "qual p(a) = a >= 0; qual n(a) = a < 0; qual l(a, b) = a < b; fn f(x: int, y: bool, z: arr 2) -> bool = y; pub fn g(x: int) -> bool = f(x, true, fill(2, x));")
	places := []kap{{Fn: "f", Pos: 1}, {Fn: "f", Pos: 2}, {Fn: "f", Pos: gen.Result}, {Fn: "g", Pos: 0}}
	s := sol{}
	horn.New().Solve(table, partsOf(table), places, s)
	if got := solText(table, s); got != "f.-1: p() n() l(0); f.1: p() n() l(0); f.2: p() n() l(0); g.0: p() n()" {
		t.Error("no condition is one of them:", got)
	}
	x := linear.Var(0)
	conds := []gen.Cons{
		made(used(places[0], num(3), num(4))),
		made(used(places[1], x, num(0)), used(places[0], x, num(5))),
	}
	s = sol{}
	horn.New().Solve(table, []horn.Part{{Fn: "f", Cons: conds}}, places, s)
	if got := solText(table, s); got != "f.-1: p() n() l(0); f.1: p() l(0); f.2: p(); g.0: p() n()" {
		t.Error("two conditions:", got)
	}
}

// made is a condition of a place's value and of a formula, by hand.
func made(head gen.Hyp, hyps ...gen.Hyp) gen.Cons {
	return gen.Cons{Fn: "f", Head: head, Hyps: hyps, Code: api.CodeAssert}
}

func formed(f formula.F) gen.Hyp { return gen.Hyp{If: formula.Yes(), F: f} }

func used(k kap, args ...term) gen.Hyp {
	return gen.Hyp{If: formula.Yes(), IsK: true, Use: gen.Use{K: k, Args: args}}
}

// TestHolds: by hand.
func TestHolds(t *testing.T) {
	table := rightTable(t, "qual p(a) = a > 0; qual l(a, b) = a < b; fn f(x: int) -> int = x;")
	k := kap{Fn: "f", Pos: gen.Result}
	x, y := linear.Var(0), linear.Var(1)
	above := formed(formula.LtF(num(0), x))
	pos, less := inst{Qual: 0}, inst{Qual: 1, At: []int{0}}
	guarded := func(f formula.F, h gen.Hyp) gen.Hyp {
		h.If = f
		return h
	}
	for i, c := range []struct {
		c    gen.Cons
		is   sol
		want bool
	}{
		{made(above), nil, false},
		{made(formed(formula.Yes())), nil, true},
		{made(above, above), nil, true},
		{made(above, used(k, x, y)), nil, false},
		{made(above, used(k, x, y)), sol{k: nil}, false},
		{made(above, used(k, x, y)), sol{k: {pos}}, true},
		{made(above, used(k, x, y)), sol{k: {less}}, false},
		{made(above, used(k, x, y)), sol{k: {less, pos}}, true},
		{made(above, used(k, x, y)), sol{{Fn: "f"}: {pos}}, false},
		{made(above, used(k, y, x), used(k, y)), sol{k: {less, pos}}, true},
		{made(above, used(k, y), used(k, y, x)), sol{k: {less, pos}}, true},
		{made(above, used(k, y, x)), sol{k: {less}}, false},
		// If isn't so, or may not be.
		{made(above, guarded(formula.No(), above)), nil, false},
		{made(above, guarded(formula.Truth(1), above)), nil, false},
		{made(above, guarded(formula.Truth(1), above), formed(formula.Truth(1))), nil, true},
		{made(above, guarded(formula.Truth(1), used(k, x)), formed(formula.Truth(1))), sol{k: {pos}}, true},
		{made(above, guarded(formula.Truth(1), used(k, x)), formed(formula.Neg(formula.Truth(1)))), sol{k: {pos}}, false},
		{made(above, guarded(formula.Truth(1), used(k, x)), guarded(formula.Neg(formula.Truth(1)), above)), sol{k: {pos}}, true},
		{made(guarded(formula.LtF(num(0), x), above)), nil, true},
		{made(guarded(formula.LtF(num(-1), x), above)), nil, false},
		// What is known can't be.
		{made(formed(formula.No()), above, formed(formula.LtF(x, num(0)))), nil, true},
	} {
		e := horn.New()
		if got := e.Holds(table, c.c, 7, c.is); got != c.want {
			t.Errorf("case %d: %v", i, got)
		}
		if len(e.Queries) != 1 || e.Queries[0] != (horn.Query{Fn: "f", Cons: 7}) || e.S.Asked() != 1 {
			t.Errorf("case %d: asked %v", i, e.Queries)
		}
	}
}

// TestApps: of products, and of what arrays have at their places, it is known that
// they are some function's.
func TestApps(t *testing.T) {
	for text, want := range map[string]bool{
		"pub fn f(a: arr 3, x: int, y: int{v = x}) -> int{v = 0} = get(a, 1) - get(a, x * y - y * y + 1);": true,
		"pub fn f(a: arr 3, x: int{v = 2}) -> int{v = 0} = get(a, 1) - get(a, x - 1);":                     true,
		"pub fn f(a: arr 3, x: int{v = 2}) -> int{v = 0} = get(a, 1) - get(set(a, 2, 2), x - 1);":          false,
		"pub fn f(x: int, y: int) -> int{v = 0} = x * y - y * x;":                                          false,
	} {
		table := rightTable(t, text)
		e := horn.New()
		all := true
		for n, c := range gen.Function(table, 0) {
			all = e.Holds(table, c, n, nil) && all
		}
		if all != want {
			t.Errorf("%s: %v", text, all)
		}
	}
}
