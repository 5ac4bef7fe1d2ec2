package gen_test

import (
	"slices"
	"testing"

	"whetstone/base"
	"whetstone/gen"
)

// TestExample is the chapter's own one.
func TestExample(t *testing.T) {
	answers(t, "fn f(x: int{v > 0}) -> int = 1 / x;",
		"12 `1 / x` not(all(<1*x0>, <-1*x0>)) ; <-1*x0+1>",
		"14 `1 / x` f.-1(1*x1, 1*x0) ; <-1*x0+1> ; x1 = f2(1)(1*x0)")
}

// TestPlaces: what is said of parameters and results.
func TestPlaces(t *testing.T) {
	// Nothing is said of a result that isn't open: no condition.
	answers(t, "pub fn f(x: int) -> int = x;")
	answers(t, "fn f(x: int) -> bool = true;")
	answers(t, "fn f(x: int) -> arr 2 = fill(2, x);")
	// Truths and arrays aren't among a Use's numbers, nor are they open.
	answers(t, "fn f(x: int, b: bool, y: int, a: arr 3, z: int) -> int = x + z;",
		"14 `x + z` f.-1(1*x0+1*x2, 1*x0, 1*x1, 1*x2) ; f.0(1*x0) ; f.2(1*x1, 1*x0) ; f.4(1*x2, 1*x0, 1*x1)")
	// A place with a predicate isn't open, the others are; names are those ahead.
	answers(t, "fn f(x: int, y: int{v > x}, c: bool{v or y = 2}) -> int{v <= y and not c} = x;",
		"14 `x` all(<1*x0-1*x1>, not(b0)) ; f.0(1*x0) ; <1*x0-1*x1+1> ; any(b0, all(<1*x1-2>, <-1*x1+2>))")
	// Of a pub function written predicates alone.
	answers(t, "pub fn f(x: int, y: int{v != x}) -> int{v >= x + y} = 2;",
		"14 `2` <1*x0+1*x1-2> ; not(all(<-1*x0+1*x1>, <1*x0-1*x1>))")
	answers(t, "pub fn f(b: bool{v}) -> bool{not v} = b;", "14 `b` not(b0) ; b0")
	answers(t, "pub fn f(b: bool) -> bool{v or b} = not b;", "14 `not b` any(not(b0), b0)")
}

// TestNumbers: sums, and what isn't one.
func TestNumbers(t *testing.T) {
	const head = "pub fn f(x: int, y: int) -> int{v > 0} = "
	for s, want := range map[string]string{
		"42":                      "<-41>",
		"-x":                      "<1*x0+1>",
		"- -x":                    "<-1*x0+1>",
		"x + y":                   "<-1*x0-1*x1+1>",
		"x - y - 1":               "<-1*x0+1*x1+2>",
		"x * 3":                   "<-3*x0+1>",
		"3 * x":                   "<-3*x0+1>",
		"(y - y + 2) * (x - 1)":   "<-2*x0+3>",
		"(x - 1) * -(2 + x - x)":  "<2*x0-1>",
		"3 * 4 * 5":               "<-59>",
		"0 * x * y":               "<1>",
		"len(fill(7, 1)) * x":     "<-7*x0+1>",
		"1000000000000000000 * x": "<-1000000000000000000*x0+1>",
	} {
		answers(t, head+s+";", "14 `"+s+"` "+want)
	}
	answers(t, head+"x * y;", "14 `x * y` <-1*x2+1> ; x2 = f1(1*x0)(1*x1)")
	answers(t, head+"(x + 1) * (x * y) - x * y;",
		"14 `(x + 1) * (x * y) - x * y` <-1*x3+1*x4+1> ; x2 = f1(1*x0)(1*x1) ; x3 = f1(1*x0+1)(1*x2) ; x4 = f1(1*x0)(1*x1)")
}

// TestDivision: by a number, and by what may be 0.
func TestDivision(t *testing.T) {
	const head = "pub fn f(x: int, y: int) -> int{v > 0} = "
	answers(t, head+"x / 3;", "14 `x / 3` <-1*x2+1> ; all(<-1*x0+3*x2>, <1*x0-3*x2-2>)")
	answers(t, head+"x % 3;", "14 `x % 3` <-1*x0+3*x2+1> ; all(<-1*x0+3*x2>, <1*x0-3*x2-2>)")
	answers(t, head+"x / -3;", "14 `x / -3` <-1*x2+1> ; all(<-1*x0-3*x2>, <1*x0+3*x2-2>)")
	answers(t, head+"x % (y - y - 2);", "14 `x % (y - y - 2)` <-1*x0-2*x2+1> ; all(<-1*x0-2*x2>, <1*x0+2*x2-1>)")
	answers(t, head+"7 / 2;", "14 `7 / 2` <-1*x2+1> ; all(<2*x2-7>, <-2*x2+6>)")
	answers(t, head+"x / y;",
		"12 `x / y` not(all(<1*x1>, <-1*x1>))",
		"14 `x / y` <-1*x2+1> ; x2 = f2(1*x0)(1*x1)")
	answers(t, head+"x % (y + 1);",
		"12 `x % (y + 1)` not(all(<1*x1+1>, <-1*x1-1>))",
		"14 `x % (y + 1)` <-1*x2+1> ; x2 = f3(1*x0)(1*x1+1)")
	answers(t, head+"x / 0;",
		"12 `x / 0` not(all(<0>, <0>))",
		"14 `x / 0` <-1*x2+1> ; x2 = f2(1*x0)(0)")
	answers(t, head+"1 % (x - x);",
		"12 `1 % (x - x)` not(all(<0>, <0>))",
		"14 `1 % (x - x)` <-1*x2+1> ; x2 = f3(1)(0)")
	// Parts from the left, a part ahead of the whole.
	answers(t, head+"x / y / (y % x);",
		"12 `x / y` not(all(<1*x1>, <-1*x1>))",
		"12 `y % x` not(all(<1*x0>, <-1*x0>)) ; x2 = f2(1*x0)(1*x1)",
		"12 `x / y / (y % x)` not(all(<1*x3>, <-1*x3>)) ; x2 = f2(1*x0)(1*x1) ; x3 = f3(1*x1)(1*x0)",
		"14 `x / y / (y % x)` <-1*x4+1> ; x2 = f2(1*x0)(1*x1) ; x3 = f3(1*x1)(1*x0) ; x4 = f2(1*x2)(1*x3)")
}

// TestTruths: formulas, and where they have names.
func TestTruths(t *testing.T) {
	const head = "pub fn f(x: int, y: int, b: bool, c: bool) -> bool{v} = "
	for s, want := range map[string]string{
		"true":                          "yes",
		"false":                         "no",
		"b":                             "b0",
		"x < y":                         "<1*x0-1*x1+1>",
		"x <= y":                        "<1*x0-1*x1>",
		"x > y":                         "<-1*x0+1*x1+1>",
		"x >= y":                        "<-1*x0+1*x1>",
		"x = y":                         "all(<1*x0-1*x1>, <-1*x0+1*x1>)",
		"x != y":                        "not(all(<1*x0-1*x1>, <-1*x0+1*x1>))",
		"not (x < y)":                   "not(<1*x0-1*x1+1>)",
		"not not b":                     "not(not(b0))",
		"b and c and x > 0":             "all(all(b0, b1), <-1*x0+1>)",
		"b or c and not b":              "any(b0, all(b1, not(b0)))",
		"2 * x < 1 + 2 * x":             "<0>",
		"b = c":                         "all(any(not(b0), b1), any(not(b1), b0))",
		"b != c":                        "not(all(any(not(b0), b1), any(not(b1), b0)))",
		"true = b":                      "all(any(not(yes), b0), any(not(b0), yes))",
		"false != (let d = false in d)": "not(all(any(not(no), no), any(not(no), no)))",
	} {
		answers(t, head+s+";", "14 `"+s+"` "+want)
	}
	// Both are named, but for truths: the first ahead of what the second makes known.
	answers(t, head+"(x < 0) = (y / 2 < 0);",
		"14 `(x < 0) = (y / 2 < 0)` all(any(not(b2), b3), any(not(b3), b2))"+
			" ; all(any(not(b2), <1*x0+1>), any(not(<1*x0+1>), b2))"+
			" ; all(<-1*x1+2*x2>, <1*x1-2*x2-1>)"+
			" ; all(any(not(b3), <1*x2+1>), any(not(<1*x2+1>), b3))")
	answers(t, head+"b = not c;",
		"14 `b = not c` all(any(not(b0), b2), any(not(b2), b0)) ; all(any(not(b2), not(b1)), any(not(not(b1)), b2))")
	// What is compared was a truth by a name.
	answers(t, head+"let d = x < y in d and (d = c);",
		"14 `let d = x < y in d and (d = c)` all(b2, all(any(not(b2), b1), any(not(b1), b2)))"+
			" ; all(any(not(b2), <1*x0-1*x1+1>), any(not(<1*x0-1*x1+1>), b2))")
}

// TestLet: names stand for values, those of truths alone are new ones.
func TestLet(t *testing.T) {
	const head = "pub fn f(x: int, b: bool, a: arr 3) -> int{v > 0} = "
	answers(t, head+"let y = x + 1 in y + y;", "14 `let y = x + 1 in y + y` <-2*x0-1>")
	answers(t, head+"let c = b in let d = true in if c then 1 else 2;",
		"14 `let c = b in let d = true in if c then 1 else 2` <-1*x1+1>"+
			" ; any(not(b0), all(<1*x1-1>, <-1*x1+1>)) ; any(not(not(b0)), all(<1*x1-2>, <-1*x1+2>))")
	answers(t, head+"let d = a in len(d);", "14 `let d = a in len(d)` <-2>")
	// A name is there in its second part alone: it may come again behind.
	answers(t, head+"(let y = 1 in y) + (let y = x in y * 2);",
		"14 `(let y = 1 in y) + (let y = x in y * 2)` <-2*x0>")
}

// TestIf: what is known in a branch, and behind it.
func TestIf(t *testing.T) {
	answers(t, "pub fn f(x: int, b: bool) -> int{v > 0} = if b then x else 2;",
		"14 `if b then x else 2` <-1*x1+1>"+
			" ; any(not(b0), all(<-1*x0+1*x1>, <1*x0-1*x1>)) ; any(not(not(b0)), all(<1*x1-2>, <-1*x1+2>))")
	// A condition in each branch; the first one's is known in the second, for its case.
	answers(t, "pub fn f(x: int) -> bool = if x != 0 then 1 / x > x % 2 else assert x > 0 in 2 / x = 1;",
		"12 `1 / x` not(all(<1*x0>, <-1*x0>))"+
			" ; all(any(not(b0), not(all(<1*x0>, <-1*x0>))), any(not(not(all(<1*x0>, <-1*x0>))), b0)) ; b0",
		"10 `x > 0` <-1*x0+1>"+
			" ; all(any(not(b0), not(all(<1*x0>, <-1*x0>))), any(not(not(all(<1*x0>, <-1*x0>))), b0))"+
			" ; all(b0, yes) ? all(<-1*x0+2*x2>, <1*x0-2*x2-1>) ; not(b0) ; x1 = f2(1)(1*x0)",
		"12 `2 / x` not(all(<1*x0>, <-1*x0>))"+
			" ; all(any(not(b0), not(all(<1*x0>, <-1*x0>))), any(not(not(all(<1*x0>, <-1*x0>))), b0))"+
			" ; all(b0, yes) ? all(<-1*x0+2*x2>, <1*x0-2*x2-1>) ; not(b0) ; <-1*x0+1> ; x1 = f2(1)(1*x0)")
	// Ifs in one another: the outer case stands outside.
	answers(t, "pub fn f(x: int, b: bool, c: bool) -> int{v > x} = if b then (if c then x % 2 else 1) else 2;",
		"14 `if b then (if c then x % 2 else 1) else 2` <1*x0-1*x3+1>"+
			" ; all(b0, all(b1, yes)) ? all(<-1*x0+2*x1>, <1*x0-2*x1-1>)"+
			" ; all(b0, yes) ? any(not(b1), all(<-1*x0+2*x1+1*x2>, <1*x0-2*x1-1*x2>))"+
			" ; all(b0, yes) ? any(not(not(b1)), all(<1*x2-1>, <-1*x2+1>))"+
			" ; any(not(b0), all(<-1*x2+1*x3>, <1*x2-1*x3>))"+
			" ; any(not(not(b0)), all(<1*x3-2>, <-1*x3+2>))")
	// In a first part: nothing is known of the case there.
	answers(t, "pub fn f(b: bool, c: bool) -> bool{v} = if (if b then c else true) then b else not c;",
		"14 `if (if b then c else true) then b else not c` any(all(b2, b0), all(not(b2), not(b1)))"+
			" ; all(any(not(b2), any(all(b0, b1), all(not(b0), yes))), any(not(any(all(b0, b1), all(not(b0), yes))), b2))")
	// Of what is always so, or never, the case is that itself.
	answers(t, "pub fn f(x: int) -> int{v > 0} = if true then x % 2 else 1;",
		"14 `if true then x % 2 else 1` <-1*x2+1>"+
			" ; all(yes, yes) ? all(<-1*x0+2*x1>, <1*x0-2*x1-1>)"+
			" ; any(not(yes), all(<-1*x0+2*x1+1*x2>, <1*x0-2*x1-1*x2>))"+
			" ; any(not(not(yes)), all(<1*x2-1>, <-1*x2+1>))")
	answers(t, "pub fn f(a: arr 3, b: bool, c: arr 3) -> int{v > 0} = get(if b then a else c, 1);",
		"11 `get(if b then a else c, 1)` all(<-1>, <-1>)",
		"14 `get(if b then a else c, 1)` <-1*x0+1> ; x0 = f12(1)")
}

// TestAssert: it must hold, and does from then on.
func TestAssert(t *testing.T) {
	answers(t, "pub fn f(x: int) -> int{v > 0} = assert x > 1 and x < 9 in assert x % 2 = 0 in x;",
		"10 `x > 1 and x < 9` all(<-1*x0+2>, <1*x0-8>)",
		"10 `x % 2 = 0` all(<1*x0-2*x1>, <-1*x0+2*x1>) ; all(<-1*x0+2>, <1*x0-8>) ; all(<-1*x0+2*x1>, <1*x0-2*x1-1>)",
		"14 `assert x > 1 and x < 9 in assert x % 2 = 0 in x` <-1*x0+1> ; all(<-1*x0+2>, <1*x0-8>)"+
			" ; all(<-1*x0+2*x1>, <1*x0-2*x1-1>) ; all(<1*x0-2*x1>, <-1*x0+2*x1>)")
	answers(t, "pub fn f() -> bool = assert false in true;", "10 `false` no")
	answers(t, "pub fn f(b: bool) -> int{v > 0} = if (assert b in b) then 1 else (assert not b in 2);",
		"10 `b` b0",
		"10 `not b` not(b0) ; b0 ; not(b0)",
		"14 `if (assert b in b) then 1 else (assert not b in 2)` <-1*x0+1> ; b0 ; all(not(b0), yes) ? not(b0)"+
			" ; any(not(b0), all(<1*x0-1>, <-1*x0+1>)) ; any(not(not(b0)), all(<1*x0-2>, <-1*x0+2>))")
}

// TestCall: arguments must be as is said, results are.
func TestCall(t *testing.T) {
	const g = "fn g(n: int{v > 0}, c: bool, m: int, d: bool{v or c or n = 3}, a: arr 2) -> int = 1; "
	answers(t, g+"pub fn f(x: int, b: bool, a: arr 2) -> bool = g(x * 2, x < 5, x + 1, not b, a) > 0;",
		"13 `x * 2` <-2*x0+1>",
		"13 `x + 1` g.2(1*x0+1, 2*x0)",
		"13 `not b` any(any(not(b0), <1*x0-4>), all(<2*x0-3>, <-2*x0+3>))")
	answers(t, g+"fn f(x: int, b: bool, a: arr 2) -> int = g(x, b, g(1, b, x, true, a), b, a);",
		"13 `1` <0> ; f.0(1*x0)",
		"13 `x` g.2(1*x0, 1) ; f.0(1*x0)",
		"13 `true` any(any(yes, b0), all(<-2>, <2>)) ; f.0(1*x0)",
		"13 `x` <-1*x0+1> ; f.0(1*x0) ; g.-1(1*x1, 1, 1*x0)",
		"13 `g(1, b, x, true, a)` g.2(1*x1, 1*x0) ; f.0(1*x0) ; g.-1(1*x1, 1, 1*x0)",
		"13 `b` any(any(b0, b0), all(<1*x0-3>, <-1*x0+3>)) ; f.0(1*x0) ; g.-1(1*x1, 1, 1*x0)",
		"14 `g(x, b, g(1, b, x, true, a), b, a)` f.-1(1*x2, 1*x0) ; f.0(1*x0) ; g.-1(1*x1, 1, 1*x0) ; g.-1(1*x2, 1*x0, 1*x1)")
	// All arguments have their values ahead of what must be of the first.
	answers(t, "pub fn g(n: int{v > 0}, m: int) -> int{v > n} = n + 1; pub fn f(x: int) -> int{v > 1} = g(x, 1 / x);",
		"12 `1 / x` not(all(<1*x0>, <-1*x0>))",
		"13 `x` <-1*x0+1> ; x1 = f2(1)(1*x0)",
		"14 `g(x, 1 / x)` <-1*x2+2> ; <1*x0-1*x2+1> ; x1 = f2(1)(1*x0)")
	// Results that are truths and arrays; of a pub function without predicates nothing is said.
	answers(t, "pub fn g(n: int) -> bool{v or n > 1} = true; pub fn h(b: bool) -> arr 3 = fill(3, 1); pub fn k() -> int = 1;"+
		"pub fn f(x: int) -> int{v > 0} = get(h(g(x)), k());",
		"11 `get(h(g(x)), k())` all(<-1*x1>, <1*x1-2>) ; any(b0, <-1*x0+2>)",
		"14 `get(h(g(x)), k())` <-1*x2+1> ; any(b0, <-1*x0+2>) ; x2 = f10(1*x1)")
	// A function that calls itself; within a branch a result is known for its case.
	answers(t, "fn f(x: int) -> int = if x <= 0 then 0 else f(x - 1);",
		"13 `x - 1` f.0(1*x0-1) ; f.0(1*x0) ; all(any(not(b0), <1*x0>), any(not(<1*x0>), b0)) ; not(b0)",
		"14 `if x <= 0 then 0 else f(x - 1)` f.-1(1*x2, 1*x0) ; f.0(1*x0) ; all(any(not(b0), <1*x0>), any(not(<1*x0>), b0))"+
			" ; all(not(b0), yes) ? f.-1(1*x1, 1*x0-1)"+
			" ; any(not(b0), all(<1*x2>, <-1*x2>)) ; any(not(not(b0)), all(<-1*x1+1*x2>, <1*x1-1*x2>))")
	// A predicate's name that is also one of the caller stands for the argument.
	answers(t, "pub fn g(y: int, x: int{v > y}) -> int{v > x} = x + 1; pub fn f(x: int, y: int) -> int{v > y} = g(x, y);",
		"13 `y` <1*x0-1*x1+1>",
		"14 `g(x, y)` <1*x1-1*x2+1> ; <1*x1-1*x2+1>")
}

// TestArrays: their numbers, their lengths, and what is at their places.
func TestArrays(t *testing.T) {
	answers(t, "pub fn f(a: arr 3, b: arr 5, i: int) -> int{v > 0} = get(b, i) + get(set(a, i, get(b, 4)), i + 1) - get(b, i);",
		"11 `get(b, i)` all(<-1*x0>, <1*x0-4>)",
		"11 `get(b, 4)` all(<-4>, <0>) ; x1 = f11(1*x0)",
		"11 `set(a, i, get(b, 4))` all(<-1*x0>, <1*x0-2>) ; x1 = f11(1*x0) ; x2 = f11(4)",
		"11 `get(set(a, i, get(b, 4)), i + 1)` all(<-1*x0-1>, <1*x0-1>) ; x1 = f11(1*x0) ; x2 = f11(4)",
		"11 `get(b, i)` all(<-1*x0>, <1*x0-4>) ; x1 = f11(1*x0) ; x2 = f11(4) ; x3 = f12(1*x0+1)",
		"14 `get(b, i) + get(set(a, i, get(b, 4)), i + 1) - get(b, i)` <-1*x1-1*x3+1*x4+1>"+
			" ; x1 = f11(1*x0) ; x2 = f11(4) ; x3 = f12(1*x0+1) ; x4 = f11(1*x0)")
	answers(t, "pub fn f(x: int) -> int{v > 0} = get(fill(4, x * x), 1) + len(fill(1000000, 1 / x));",
		"11 `get(fill(4, x * x), 1)` all(<-1>, <-2>) ; x1 = f1(1*x0)(1*x0)",
		"12 `1 / x` not(all(<1*x0>, <-1*x0>)) ; x1 = f1(1*x0)(1*x0) ; x2 = f10(1)",
		"14 `get(fill(4, x * x), 1) + len(fill(1000000, 1 / x))` <-1*x2-999999>"+
			" ; x1 = f1(1*x0)(1*x0) ; x2 = f10(1) ; x3 = f2(1)(1*x0)")
	// An array without places has none.
	answers(t, "pub fn f(a: arr 0) -> int{v = 0} = len(a) + get(a, 0);",
		"11 `get(a, 0)` all(<0>, <1>)",
		"14 `len(a) + get(a, 0)` all(<1*x0>, <-1*x0>) ; x0 = f10(0)")
	// A name stands for the array itself; a branch makes a new one of its length.
	answers(t, "pub fn f(a: arr 2, b: bool) -> int{v > 0} = let c = a in get(c, 0) + get(if b then c else set(a, 1, 2), 1);",
		"11 `get(c, 0)` all(<0>, <-1>)",
		"11 `set(a, 1, 2)` all(<-1>, <0>) ; not(b0) ; x0 = f10(0)",
		"11 `get(if b then c else set(a, 1, 2), 1)` all(<-1>, <0>) ; x0 = f10(0)",
		"14 `let c = a in get(c, 0) + get(if b then c else set(a, 1, 2), 1)` <-1*x0-1*x1+1> ; x0 = f10(0) ; x1 = f12(1)")
}

// TestNoFunction: an item that isn't there, or is a qualifier, has no conditions.
func TestNoFunction(t *testing.T) {
	table := rightTable(t, "qual q(a, b) = a > b; fn f(x: int) -> int = x; qual f(a) = a = 0;")
	for i := -2; i < 6; i++ {
		if l := gen.Function(table, i); (len(l) > 0) != (i == 1) {
			t.Errorf("Function(%d) = %v", i, l)
		}
	}
	for i := -1; i < 2; i++ {
		if l := gen.Function(nil, i); len(l) > 0 {
			t.Errorf("of no table: Function(%d) = %v", i, l)
		}
		if l := gen.Function(base.New(nil), i); len(l) > 0 {
			t.Errorf("of an empty table: Function(%d) = %v", i, l)
		}
		if l := gen.Function(&base.Table{}, i); len(l) > 0 {
			t.Errorf("of a table that nobody made: Function(%d) = %v", i, l)
		}
	}
}

// TestOpens: parameters, then the result, of functions that aren't pub.
func TestOpens(t *testing.T) {
	for _, c := range []struct {
		text string
		pos  []int
	}{
		{"fn f() -> int = 1;", []int{gen.Result}},
		{"fn f() -> bool = true;", nil},
		{"fn f() -> arr 2 = fill(2, 0);", nil},
		{"fn f(x: int) -> int{v > x} = 1;", []int{0}},
		{"fn f(x: int, b: bool, y: int{true}, a: arr 3, z: int, c: bool{v}) -> int = 1;", []int{0, 4, gen.Result}},
		{"fn f(a: int, b: int, c: int, d: int, e: int, g: int) -> int = 1;", []int{0, 1, 2, 3, 4, 5, gen.Result}},
		{"pub fn f(x: int, b: bool, z: int) -> int = 1;", nil},
		{"qual f(x, y) = x > y;", nil},
	} {
		var want []gen.Kap
		for _, pos := range c.pos {
			want = append(want, gen.Kap{Fn: "f", Pos: pos})
		}
		if got := gen.Opens(parsed(t, c.text)); !slices.Equal(got, want) {
			t.Errorf("Opens of %s = %v, not %v", c.text, got, want)
		}
	}
	if l := gen.Opens(item{}); len(l) > 0 {
		t.Error("Opens of no item", l)
	}
	if l := gen.Opens(item{Kind: 3, Result: parsed(t, "fn f() -> int = 1;").Result}); len(l) > 0 {
		t.Error("Opens of an item of another kind", l)
	}
}
