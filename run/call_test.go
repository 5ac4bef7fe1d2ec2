package run_test

import (
	"fmt"
	"testing"

	"whetstone/api"
	"whetstone/big"
	"whetstone/run"
)

// TestExamples are the chapter's own ones.
func TestExamples(t *testing.T) {
	table := rightTable(t, "fn f(x: int) -> int = 10 / x;")
	if got := told(run.Call(table, "f", values("3"), 5)); got != "done 2 3" {
		t.Error(got)
	}
	if got := told(run.Call(table, "f", values("0"), 5)); got != "fail 2 f {22 28} 12" {
		t.Error(got)
	}
	if run.MostSteps != 131072 {
		t.Error("MostSteps is", run.MostSteps)
	}
}

// TestNumbers: what is done with numbers, and each expression's step.
func TestNumbers(t *testing.T) {
	const head = "fn f(x: int, y: int) -> int = "
	for _, c := range []struct {
		body, x, y, want string
		steps            int
	}{
		{"7", "0", "0", "7", 1},
		{"x", "5", "0", "5", 1},
		{"y", "5", "-6", "-6", 1},
		{"-x", "5", "0", "-5", 2},
		{"-x", "0", "0", "0", 2},
		{"--x", "5", "0", "5", 3},
		{"x + y", "5", "-7", "-2", 3},
		{"x - y", "5", "7", "-2", 3},
		{"x - y - 1", "5", "7", "-3", 5},
		{"x - (y - 1)", "5", "7", "-1", 5},
		{"x / y", "-7", "2", "-4", 3},
		{"x % y", "-7", "2", "1", 3},
		{"x / y", "-7", "-2", "4", 3},
		{"x % y", "-7", "-2", "1", 3},
		{"x / y", "7", "-2", "-3", 3},
		{"x % y", "7", "-2", "1", 3},
		{"x / y", "0", "-2", "0", 3},
		{"1 + x * y", "2", "3", "7", 7},
		{"x + y", "99999999999999999999999999999999999999999999", "1", "100000000000000000000000000000000000000000000", 3},
	} {
		gives(t, head+c.body+";", c.want, c.steps, c.x, c.y)
	}
}

// TestProducts: as many more steps as both numbers have limbs.
func TestProducts(t *testing.T) {
	const two = "4294967296" // two limbs
	for _, c := range []struct {
		x, y, want string
		steps      int
	}{
		{"0", "0", "0", 3},
		{"0", "5", "0", 4},
		{"5", "0", "0", 4},
		{"-4", "5", "-20", 5},
		{"4294967295", "1", "4294967295", 5},
		{two, "1", two, 6},
		{"-1", two, "-" + two, 6},
		{two, two, "18446744073709551616", 7},
		{two, "-18446744073709551616", "-79228162514264337593543950336", 8},
	} {
		gives(t, "fn f(x: int, y: int) -> int = x * y;", c.want, c.steps, c.x, c.y)
	}
	// In a row each product takes them once; the product's limbs count in the next one.
	gives(t, "fn f(x: int) -> int = x * x * x;", "79228162514264337593543950336", 5+4+5, two)
	// Limbs 0 at a number's end are none.
	table := rightTable(t, "fn f(x: int, y: int) -> int = x * y;")
	long := func(n uint32) val { return val{Base: api.Int, N: big.Int{Mag: []uint32{n, 0, 0, 0, 0}}} }
	for n, want := range map[uint32]string{0: "done 95 0", 3: "done 94 6"} {
		x := long(n)
		x.N.Neg = n == 0
		if got := told(run.Call(table, "f", []val{x, long(min(2, n))}, 99)); n == 0 && got != "done 96 0" || n > 0 && got != want {
			t.Error(n, got)
		}
	}
}

// TestTruths: what is done with truths.
func TestTruths(t *testing.T) {
	const head = "fn f(x: int, y: int, b: bool, c: bool) -> bool = "
	for _, c := range []struct {
		body  string
		want  [3]bool // where x is less than y, the same, greater
		steps int
	}{
		{"x < y", [3]bool{true, false, false}, 3},
		{"x <= y", [3]bool{true, true, false}, 3},
		{"x > y", [3]bool{false, false, true}, 3},
		{"x >= y", [3]bool{false, true, true}, 3},
		{"x = y", [3]bool{false, true, false}, 3},
		{"x != y", [3]bool{true, false, true}, 3},
		{"not (x < y)", [3]bool{false, true, true}, 4},
		{"true", [3]bool{true, true, true}, 1},
		{"false", [3]bool{false, false, false}, 1},
	} {
		for i, x := range []string{"-5", "4294967296", "4294967297"} {
			gives(t, head+c.body+";", fmt.Sprint(c.want[i]), c.steps, x, "4294967296", "true", "false")
		}
	}
	for _, l := range [][2]bool{{false, false}, {false, true}, {true, false}, {true, true}} {
		a, b := fmt.Sprint(l[0]), fmt.Sprint(l[1])
		for body, want := range map[string]bool{
			"b and c": l[0] && l[1], "b or c": l[0] || l[1], "b = c": l[0] == l[1], "b != c": l[0] != l[1],
		} {
			gives(t, head+body+";", fmt.Sprint(want), 3, "0", "0", a, b)
		}
		gives(t, head+"not b or c;", fmt.Sprint(!l[0] || l[1]), 4, "0", "0", a, b)
		gives(t, head+"b and c or not b and not c;", fmt.Sprint(l[0] == l[1]), 9, "0", "0", a, b)
	}
}

// TestBothParts: And and Or do both parts, always; If one branch alone.
func TestBothParts(t *testing.T) {
	fails(t, "fn f() -> bool = false and 1 / 0 = 1;", "f", "1 / 0", api.CodeZero, 6)
	fails(t, "fn f() -> bool = true or 1 / 0 = 1;", "f", "1 / 0", api.CodeZero, 6)
	gives(t, "fn f(x: int) -> int = if x > 0 then x else 1 / 0;", "3", 5, "3")
	gives(t, "fn f(x: int) -> int = if x > 0 then 1 / 0 else x;", "-3", 5, "-3")
	gives(t, "fn f(b: bool) -> int = if b then 1 + 1 else 2;", "2", 5, "true")
	gives(t, "fn f(b: bool) -> int = if b then 1 + 1 else 2;", "2", 3, "false")
	fails(t, "fn f(x: int) -> int = if 1 / x = 0 then 1 else 2;", "f", "1 / x", api.CodeZero, 5, "0")
}

// TestLet: a name stands for a value that is found once, in the second part alone.
func TestLet(t *testing.T) {
	gives(t, "fn f(x: int) -> int = let y = x + 1 in y * y;", "16", 4+3+2, "3")
	gives(t, "fn f(x: int) -> int = (let y = x in y) + (let y = 2 in y + x);", "10", 9, "4")
	gives(t, "fn f(x: int) -> int = let y = x in let z = y + 1 in y - z;", "-1", 9, "9")
	gives(t, "fn f(x: int) -> bool = let b = x > 0 in b;", "true", 5, "9")
	gives(t, "fn f(a: arr 2) -> int = let b = set(a, 0, 7) in get(b, 0) - get(a, 0);", "6", 1+4+2+7, "[1 2]")
	fails(t, "fn f(x: int) -> int = let y = 1 / x in 5;", "f", "1 / x", api.CodeZero, 4, "0")
}

// TestAssert: in order, and where it fails.
func TestAssert(t *testing.T) {
	gives(t, "fn f(x: int) -> int = assert x > 0 in x;", "2", 5, "2")
	fails(t, "fn f(x: int) -> int = assert x > 0 in 1 / 0;", "f", "x > 0", api.CodeAssert, 4, "0")
	fails(t, "fn f(x: int) -> int = assert (x > 0) in 1 / 0;", "f", "x > 0", api.CodeAssert, 4, "0")
	fails(t, "fn f(x: int) -> int = assert x > 0 in 1 / 0;", "f", "1 / 0", api.CodeZero, 7, "1")
	fails(t, "fn f(x: int) -> int = assert 1 / x > 0 in x;", "f", "1 / x", api.CodeZero, 5, "0")
	fails(t, "fn f(b: bool) -> int = 1 + (assert b in 2);", "f", "b", api.CodeAssert, 4, "false")
}

// TestDivisions: the whole's Span, whatever stands in brackets.
func TestDivisions(t *testing.T) {
	fails(t, "fn f(x: int) -> int = 1 + 7 % x;", "f", "7 % x", api.CodeZero, 5, "0")
	fails(t, "fn f(x: int) -> int = (1 + 2) / (x - x);", "f", "(1 + 2) / (x - x)", api.CodeZero, 7, "5")
	fails(t, "fn f(x: int) -> int = 8 / 2 / x / 0;", "f", "8 / 2 / x", api.CodeZero, 6, "0")
	// Parts are done from the left.
	fails(t, "fn f(x: int) -> int = 1 / x + 2 / x;", "f", "1 / x", api.CodeZero, 4, "0")
	fails(t, "fn f(x: int) -> int = (assert x > 0 in 1) / (2 / x);", "f", "x > 0", api.CodeAssert, 5, "0")
}

// TestArrays: Get, Set, Len and Fill.
func TestArrays(t *testing.T) {
	gives(t, "fn f(a: arr 3, i: int) -> int = get(a, i);", "8", 3, "[7 8 9]", "1")
	gives(t, "fn f(a: arr 3) -> int = get(a, 0) - get(a, 2);", "-2", 7, "[7 8 9]")
	gives(t, "fn f(a: arr 3, i: int) -> arr 3 = set(a, i, i + 1);", "[7 8 3]", 6+3, "[7 8 9]", "2")
	gives(t, "fn f(a: arr 1) -> arr 1 = set(a, 0, -5);", "[-5]", 5+1, "[7]")
	gives(t, "fn f(a: arr 3) -> int = len(a);", "3", 2, "[7 8 9]")
	gives(t, "fn f(a: arr 0) -> int = len(a);", "0", 2, "[]")
	gives(t, "fn f(a: arr 3) -> arr 3 = a;", "[7 8 9]", 1, "[7 8 9]")
	gives(t, "fn f(x: int) -> arr 4 = fill(4, x * 2);", "[6 6 6 6]", 4+2+4, "3")
	gives(t, "fn f() -> arr 0 = fill(0, 1);", "[]", 2)
	gives(t, "fn f() -> int = len(fill(1000, 1));", "1000", 1003)
	gives(t, "fn f(a: arr 2) -> arr 2 = if get(a, 0) > 0 then a else fill(2, 0);", "[0 0]", 6+2+2, "[-1 1]")
	for _, i := range []string{"-1", "3", "4294967296", "-18446744073709551616", "18446744073709551617"} {
		fails(t, "fn f(a: arr 3, i: int) -> int = 1 + get(a, i);", "f", "get(a, i)", api.CodeBound, 5, "[7 8 9]", i)
		// The place is looked at behind all parts, and ahead of the steps.
		fails(t, "fn f(a: arr 3, i: int) -> arr 3 = set(a, i, 1 + 1);", "f", "set(a, i, 1 + 1)", api.CodeBound, 6, "[7 8 9]", i)
		fails(t, "fn f(a: arr 3, i: int) -> arr 3 = set(a, i, 1 / 0);", "f", "1 / 0", api.CodeZero, 6, "[7 8 9]", i)
	}
	fails(t, "fn f(a: arr 0) -> int = get(a, 0);", "f", "get(a, 0)", api.CodeBound, 3, "[]")
	fails(t, "fn f() -> arr 5 = fill(5, 1 / 0);", "f", "1 / 0", api.CodeZero, 4)
}

// TestCalls: a call's step, its arguments' and its body's.
func TestCalls(t *testing.T) {
	gives(t, "fn g() -> int = 4; fn f() -> int = g();", "4", 2)
	gives(t, "fn f(x: int) -> int = g(x + 1, x); fn g(x: int, y: int) -> int = x - y * 10;", "-26", 1+3+1+5+2, "3")
	gives(t, "fn f(n: int) -> int = if n <= 0 then 0 else n + f(n - 1);", "6", 3*10+5, "3")
	// A name of the one that calls is none of the one that is called, and stays its own.
	gives(t, "fn f(x: int) -> int = let y = 1 in g(2) + y + x; fn g(x: int) -> int = let y = x * 10 in y;", "26", 6+7+2, "5")
	// Where it fails: in whose bytes.
	const two = "// ;\nfn f(x: int) -> int = g(x);  fn g(y: int) -> int = 1 + 2 / y;"
	fails(t, two, "g", "2 / y", api.CodeZero, 7, "0")
	fails(t, "fn f(x: int) -> int = g(x) / g(x); fn g(y: int) -> int = y;", "f", "g(x) / g(x)", api.CodeZero, 7, "0")
	fails(t, "fn f(x: int) -> int = g(1 / x); fn g(y: int) -> int = 1 / 0;", "f", "1 / x", api.CodeZero, 4, "0")
	fails(t, "fn f(x: int) -> int = g(x) + 1 / x; fn g(y: int) -> int = y;", "f", "1 / x", api.CodeZero, 7, "0")
	// Predicates are nothing here.
	gives(t, "fn f(x: int{v > 0}) -> int{v > 0} = g(x); fn g(x: int{v > 0}) -> int{v > 0} = x;", "-4", 3, "-4")
	// The first function of a name; a qualifier is none.
	table, _ := readTable(t, "qual f(a) = a > 0; fn f() -> int = 1; fn f() -> int = 2;")
	if got := told(run.Call(table, "f", nil, 1)); got != "done 0 1" {
		t.Error(got)
	}
}

// TestOdd: what can't be called at all, whatever the steps.
func TestOdd(t *testing.T) {
	table := rightTable(t, "qual q(a) = a > 0; fn f(x: int, b: bool, a: arr 2) -> int = x; fn n() -> int = 1;")
	odd := func(name string, args ...val) {
		t.Helper()
		for _, steps := range []int{-1, 0, 1, 99} {
			if got := told(run.Call(table, name, args, steps)); got != "odd 0" {
				t.Errorf("%s of %v: %s", name, args, got)
			}
		}
	}
	x, b, a := value("1"), value("true"), value("[1 2]")
	if got := told(run.Call(table, "f", []val{x, b, a}, 1)); got != "done 0 1" {
		t.Error(got)
	}
	odd("")
	odd("g")
	odd("q", x)
	odd("f")
	odd("f", x, b)
	odd("f", x, b, a, a)
	odd("n", x)
	odd("f", b, b, a)
	odd("f", x, x, a)
	odd("f", x, b, x)
	odd("f", x, b, b)
	odd("f", a, b, a)
	odd("f", x, b, value("[1]"))
	odd("f", x, b, value("[1 2 3]"))
	odd("f", x, b, value("[]"))
	odd("f", val{}, b, a)
	odd("f", val{Base: 77, N: big.Of(1)}, b, a)
	odd("f", val{N: big.Of(1), B: true, L: a.L}, b, a)
	// Of a value just what its kind names counts.
	v := val{Base: api.Int, N: big.Of(5), B: true, L: a.L}
	if got := told(run.Call(table, "f", []val{v, {Base: api.Bool, N: big.Of(3)}, {Base: api.Arr, N: big.Of(3), B: true, L: a.L}}, 1)); got != "done 0 5" {
		t.Error(got)
	}
	if got := told(run.Call(nil, "f", nil, 99)); got != "odd 0" {
		t.Error(got)
	}
}

// TestSteps: below 0 there are none, above MostSteps these.
func TestSteps(t *testing.T) {
	table := rightTable(t, "fn f() -> int = 1;")
	for steps, want := range map[int]string{
		-1 << 63: "tire 0", -1: "tire 0", 0: "tire 0", 1: "done 0 1", 2: "done 1 1",
		131071: "done 131070 1", 131072: "done 131071 1", 131073: "done 131071 1", 1<<63 - 1: "done 131071 1",
	} {
		if got := told(run.Call(table, "f", nil, steps)); got != want {
			t.Error(steps, got)
		}
	}
	// As many as there may be, and one more.
	table = rightTable(t, "fn f() -> arr 131070 = fill(131070, 1);")
	if o := run.Call(table, "f", nil, 131072); o.Status != run.Done || len(o.V.L) != 131070 || o.Left != 0 {
		t.Error(o.Status, len(o.V.L), o.Left)
	}
	if got := told(run.Call(table, "f", nil, 131071)); got != "tire 0" {
		t.Error(got)
	}
	table = rightTable(t, "fn f() -> arr 131071 = fill(131071, 1); fn g() -> arr 1000000 = fill(1000000, 1 / 0); fn h(n: int) -> int = h(n);")
	for _, name := range []string{"f", "h"} {
		var args []val
		if name == "h" {
			args = values("1")
		}
		if got := told(run.Call(table, name, args, 1<<62)); got != "tire 0" {
			t.Error(name, got)
		}
	}
	if o := run.Call(table, "g", nil, 99); o.Status != run.Fail || o.Left != 95 {
		t.Error(told(o))
	}
}
