package base_test

import (
	"testing"

	"whetstone/api"
)

// TestExamples are the chapter's.
func TestExamples(t *testing.T) {
	checks(t, "fn f(x: int) -> int = [let x = 1 in x];", api.ErrTwice)
	checks(t, "fn f(x: int{v > [y]}, y: int) -> int = x;", api.ErrName)
	checks(t, "qual q(a, b) = [a * b] > 0;", api.ErrPred)
}

func TestRightItems(t *testing.T) {
	for _, s := range []string{
		"fn f() -> int = 1;", "pub fn f(x: int) -> int = f(x);", "fn f() -> int = g(); fn g() -> int = f();", "fn f(f: int) -> int = f(f);", "fn f(a: arr 2) -> int = get(a, len(a)) / 0;",
		"fn f(x: int, y: int{v > x}, z: bool{v or y > x}) -> int{v > x + y and z} = x;",
		"fn f(a: arr 0, b: arr 1000000) -> arr 0 = a;",
		"fn f(q: int) -> int = q; qual q(f) = f > 0; fn q(f: bool) -> bool = f; qual f(q) = q < 0;",
		"fn f(a: int, b: int, c: int, d: int, e: int, g: int) -> int = f(g, e, d, c, b, a);",
	} {
		right(t, s)
	}
}

// TestItemsTwice: of a Kind and a Name all but the first; it is told ahead of
// all that is wrong with them.
func TestItemsTwice(t *testing.T) {
	for _, s := range []string{
		"fn f() -> int = 1; fn [f]() -> int = 1;",
		"fn f() -> int = 1; fn [f](x: arr 3{v}, x: int{zz}) -> arr 3{v} = zz;",
		"fn f() -> int = 1; pub fn [f](x: bool) -> bool = x; fn g() -> int = f(); fn [f]() -> int = 1;",
		"pub fn f() -> int = 1; qual f(a) = a > 0; fn [f]() -> int = 1; qual [f](a) = a;",
		"qual q(a) = a > 0; fn q() -> int = 1; qual [q](a, a) = zz; qual [q](a) = a > 0;",
	} {
		checks(t, s, api.ErrTwice)
	}
	// An item that is wrong itself is one ahead, too.
	table := tableOf(t, "fn f() -> int = true; fn f() -> int = 1;")
	if f, bad := table.Check(0); !bad || f.E != api.ErrType {
		t.Error("the first one", f, bad)
	}
	if f, bad := table.Check(1); !bad || f.E != api.ErrTwice {
		t.Error("the second one", f, bad)
	}
	// One behind it says nothing.
	right(t, "fn f() -> int = 1; fn g() -> int = 2; qual g(a) = a > 0; qual f(a) = a < 0;")
}

// TestParameters: each one's type, then its name, one behind the other.
func TestParameters(t *testing.T) {
	for e, list := range map[api.Errno][]string{
		api.ErrTwice: {"fn f(x: int, [x]: int) -> int = zz;", "fn f(x: int, y: bool, [x]: bool, y: int) -> arr 3{v} = zz;", "fn f(x: int, [x]: int{x > v}) -> int = x;", "fn f(x: bool, [x]: int{x}) -> int = 0;", "fn f(x: int, [x]: int, y: arr 3{true}) -> int = 0;", "fn f(a: arr 2, [a]: arr 2) -> arr 2 = a;"},
		api.ErrPred:  {"fn f(x: [arr 3{true}]) -> int = zz;", "fn f(x: [arr 3{zz}]) -> int = 0;", "fn f(x: [arr 3 {v}], x: int{zz}) -> int = 0;", "fn f(x: int, x: [arr 3{true}]) -> int = 0;", "fn f(x: arr 3, y: int{[x] = v}) -> int = 0;", "fn f(x: int, x: int{[v / 2] > 0}) -> int = 0;"},
		api.ErrName:  {"fn f(x: int{[x] > 0}) -> int = x;", "fn f(x: int{v > [y]}, y: int) -> int = x;", "fn f(x: int, y: int{v > x and v > [z]}, z: int) -> int = x;", "fn f(x: int{[f] > 0}) -> int = x;", "fn f(x: int, x: int{[y] > 0}) -> int = x;", "fn f(x: int{v > [zz]}, x: int) -> int = true;"},
		api.ErrType:  {"fn f(x: int{[1]}) -> int = x;", "fn f(x: int{[v + 1]}, x: int) -> int = x;", "fn f(x: int, x: int{[v]}) -> int = zz;", "fn f(x: bool, y: int{v > [x]}) -> int = y;", "fn f(x: int, y: int{[x]}) -> int = y;", "fn f(x: int{v > 0 and ([0 + 1])}) -> int = y;"},
	} {
		for _, s := range list {
			checks(t, s, e)
		}
	}
}

// TestResults: all parameters are known there; it comes ahead of the Body.
func TestResults(t *testing.T) {
	right(t, "fn f(x: int, y: bool, z: int) -> int{v > x + z and y} = x;")
	for e, list := range map[api.Errno][]string{
		api.ErrPred: {"fn f() -> [arr 3{true}] = zz;", "fn f() -> [arr 3{zz}] = fill(3, 0);", "fn f(x: int) -> int{[v * x] > 0} = true;", "fn f(a: arr 3) -> int{v = [a]} = zz;", "fn f() -> bool{[v = true]} = 1;"},
		api.ErrName: {"fn f() -> int{v > [x]} = true;", "fn f(x: int) -> int{v > x and [y] > 0} = let y = 1 in y;", "fn f() -> int{[f] > 0} = zz;"},
		api.ErrType: {"fn f() -> int{[v]} = zz;", "fn f(x: int) -> bool{[x]} = zz;", "fn f(x: bool) -> int{[1]} = true;", "fn f(x: bool) -> int{v > [x]} = true;"},
	} {
		for _, s := range list {
			checks(t, s, e)
		}
	}
}

// TestBodies: they are of the kind of the result, whatever its predicate.
func TestBodies(t *testing.T) {
	for _, s := range []string{
		"fn f() -> bool = [1];", "fn f() -> int = [true];", "fn f() -> int{v > 0} = [1 > 0];", "fn f() -> arr 3 = [1];", "fn f() -> arr 3 = [fill(2, 0)];", "fn f() -> arr 3 = [fill(4, 0)];", "fn f(a: arr 3) -> arr 4 = [a];", "fn f() -> int = [fill(1, 0)];", "fn f() -> int = ([true]);", "fn f() -> bool = [(1) + 2];", "fn f() -> bool = [let x = true in 1];", "fn f() -> arr 0 = [0];", "fn f() -> int = [fill(0, 0)];",
	} {
		checks(t, s, api.ErrType)
	}
	checks(t, "fn f() -> bool = 1 + [zz];", api.ErrName)
	checks(t, "fn f() -> bool = -[true];", api.ErrType)
}

// TestCallsOfTheFirst: the first function of a name is the one that is called,
// right or not, ahead or behind.
func TestCallsOfTheFirst(t *testing.T) {
	checks(t, "fn h() -> int = g(1); fn g(x: int) -> int = x; fn [g](x: bool) -> bool = x; fn k() -> int = g(2);", api.ErrTwice)
	checks(t, "fn h() -> int = g([true]); fn g(x: int) -> int = x; fn k() -> bool = [g(1)];", api.ErrType)
	checks(t, "fn h() -> int = g(1); fn g(x: int{[zz]}) -> int = zz;", api.ErrName)
	checks(t, "fn h() -> int = g(1, 2); fn g(x: int, [x]: int) -> int = x;", api.ErrTwice)
	// A qualifier isn't called, nor a parameter.
	checks(t, "qual q(a) = a > 0; fn f(x: int) -> bool = [q(x)];", api.ErrName)
	checks(t, "fn f(x: int) -> int = [x(1)];", api.ErrName)
	checks(t, "fn g() -> int = 1; fn f() -> int = [g];", api.ErrName)
}

// TestLets: a name is one more in the second part alone.
func TestLets(t *testing.T) {
	for _, s := range []string{"let x = 1 in let y = x in let z = y in x + y + z", "(let x = 1 in x) + (let x = 2 in x)", "let x = let y = 1 in y in let y = x in y", "let x = let x = 1 in x in x", "let f = 1 in f", "let num = 1 in num + num()", "if (let x = t in x) then (let x = n in x) else let x = m in x", "get(let x = a in x, let x = n in x)"} {
		right(t, inBody("int", s))
	}
	for _, s := range []string{"[let n = 1 in n]", "[let a = 1 in n]", "let x = 1 in [let x = 2 in x]", "let x = 1 in let y = 2 in -([let x = y in x])", "let x = 1 in let y = [let x = 2 in x] in y", "let x = 1 in if t then x else [let x = 2 in x]", "let x = n in num() + get(a, [let x = 1 in x])"} {
		checks(t, inBody("int", s), api.ErrTwice)
	}
	for _, s := range []string{"(let x = 1 in x) + [x]", "let x = [x] in x", "let x = 1 in let y = [y] in x", "(let x = (let y = 1 in y) in [y]) + x", "let x = let y = 1 in y in [y]"} {
		checks(t, inBody("int", s), api.ErrName)
	}
	checks(t, inBody("int", "let x = t in [x] + 1"), api.ErrType)
	checks(t, inBody("int", "let x = n in get([x], 0)"), api.ErrType)
	checks(t, inBody("int", "[let x = n in t]"), api.ErrType)
}
