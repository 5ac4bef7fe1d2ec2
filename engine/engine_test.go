package engine_test

import (
	"fmt"
	"reflect"
	"strings"
	"testing"

	"whetstone/api"
	"whetstone/check"
	"whetstone/engine"
)

// TestExample is the chapter's own one.
func TestExample(t *testing.T) {
	const f = "fn f(x: int) -> int = 1 / x;"
	steps(t,
		step{f + "fn g(x: int) -> int = x / 2;", "2 made [f g] asked [f.0]"},
		step{f + "fn g(x: int) -> int = x / 3;", "1 made [g] asked []"},
	)
}

// TestRead: what is one of the last text isn't read; of the same bytes one item is.
func TestRead(t *testing.T) {
	const a, b, c = "fn a() -> int = 1;", "fn b() -> int = 2;", "fn c() -> int = 3;"
	steps(t,
		step{a + b, "2 made [a b] asked []"},
		step{b + a, "0 made [] asked []"},
		step{b + c + a, "1 made [c] asked []"},
		step{a, "0 made [] asked []"},
		// Of the text ahead of the last one nothing is known.
		step{a + b, "1 made [b] asked []"},
		// What stands ahead of an item is one of its bytes.
		step{a + "\n" + b, "1 made [b] asked []"},
		step{a + " " + b, "1 made [b] asked []"},
		step{"", "0 made [] asked []"},
		step{a + " " + b + "// the end", "2 made [a b] asked []"},
		step{a + " " + b, "0 made [] asked []"},
	)
	// Items of the same bytes, right ones and others.
	steps(t,
		step{a + a + a, "1 made [] asked []"},
		step{";;;" + a + ";", "1 made [] asked []"},
		step{";" + a + b + ";" + b, "1 made [] asked []"},
		step{"#;" + a + "#;", "1 made [] asked []"},
		step{"#;" + a + "#;", "0 made [] asked []"},
		step{a, "0 made [a] asked []"},
	)
	// Where there are too many, too.
	var l []string
	for i := range api.MaxItems + 1 {
		l = append(l, fmt.Sprintf("fn f%d() -> int = 1;", i))
	}
	steps(t,
		step{strings.Join(l[:100], ""), "100 made [" + names(100) + "] asked []"},
		step{strings.Join(l, ""), "101 made [] asked []"},
		step{strings.Join(l, "") + ";;", "1 made [] asked []"},
		step{strings.Join(l[:99], "") + l[150], "0 made [f150] asked []"},
		step{strings.Join(l[:100], ""), "1 made [f99] asked []"},
		step{strings.Repeat(";", 5000), "1 made [] asked []"},
	)
}

func names(count int) string {
	var l []string
	for i := range count {
		l = append(l, fmt.Sprint("f", i))
	}
	return strings.Join(l, " ")
}

// TestTwice: a text that comes twice in a row is neither read, made nor asked,
// whatever it is.
func TestTwice(t *testing.T) {
	e := engine.New()
	for _, s := range []string{
		"", "fn f(x: int) -> int = 1 / x;", "qual p(a) = a > 0; fn f(x: int) -> int = if x > 0 then f(x - 1) else 1;",
		"fn f(", "fn f() -> int = g();", "fn f() -> int = 1; fn f() -> int = 1;", strings.Repeat("#;", 300), "// nothing",
	} {
		first := e.Update([]byte(s))
		for range 2 {
			if second := e.Update([]byte(s)); !reflect.DeepEqual(first, second) || did(e) != "0 made [] asked []" {
				t.Errorf("%q: %s, %v, not %v", s, did(e), second, first)
			}
		}
	}
}

// TestMade: of functions whose bytes, or whose callees' heads, are others.
func TestMade(t *testing.T) {
	const g, h, i = " fn g(x: int) -> int = f(x);", " fn h(x: int) -> int = g(x);", " fn i() -> int = 1;"
	text := func(f string) string { return f + g + h + i }
	made := func(f, want string, parsed int, asked ...string) step {
		return step{text(f), fmt.Sprint(parsed, " made [", want, "] asked ", asked)}
	}
	steps(t,
		made("fn f(x: int) -> int = x;", "f g h i", 4),
		made("fn f(x: int) -> int = x + 1;", "f", 1),
		made("// x\nfn f ( x :int)->  int=x;", "f", 1),
		made("fn f(y: int) -> int = y;", "f g", 1),
		made("pub fn f(y: int) -> int = y;", "f g", 1),
		made("pub fn f(y: int{v != v + 1}) -> int = y;", "f g", 1, "g.0"),
		made("pub fn f(y: int{ v!=(v+1) }) -> int = y;", "f", 1),
		made("pub fn f(y: int{v + 1 != v}) -> int{v = y} = y;", "f g", 1, "f.0", "g.0"),
		made("fn f(y: int) -> int = y;", "f g", 1),
		// By others' places nothing is made; nor by qualifiers.
		step{i + h + g + "fn f(y: int) -> int = y;", "0 made [] asked []"},
		step{i + h + g + "fn f(y: int) -> int = y;" + " fn j(x: int) -> int = f(1);", "1 made [j] asked []"},
		step{g + "fn f(y: int) -> int = y;" + " fn j(x: int) -> int = f(1);", "0 made [] asked []"},
		step{"qual q(a) = a < a;" + g + "fn f(y: int) -> int = y;" + " fn j(x: int) -> int = f(1);", "1 made [] asked [f.0 g.0 g.1 j.0 j.1]"},
	)
	// A function that calls itself, and two that call each other.
	steps(t,
		step{"fn f(x: int) -> int = f(x); fn a() -> int = b(); fn b() -> int = a();", "3 made [f a b] asked []"},
		step{"fn f(x: int) -> int = f(x); fn a() -> int{true} = b(); fn b() -> int = a();", "1 made [a b] asked [a.0]"},
		step{"fn f(x: int) -> int = f(x); fn a() -> int{true} = b(); fn b() -> int{true} = a();", "1 made [a b] asked [a.0 b.0]"},
	)
	// In the items' order, whatever it was.
	steps(t,
		step{"fn a() -> int = 1; fn b() -> int = 1;", "2 made [a b] asked []"},
		step{"fn b() -> int = 2; fn a() -> int = 2;", "2 made [b a] asked []"},
	)
}

// TestWrongBetween: of a text that isn't right nothing is made or asked, and the last
// right one stays the old one.
func TestWrongBetween(t *testing.T) {
	const f, g = "fn f(x: int{v > 0}) -> int = 1 / x;", " fn g(x: int) -> int = f(x);"
	many := strings.Repeat(";", 300)
	steps(t,
		step{f + g, "2 made [f g] asked [f.0 g.0]"},
		step{f + g + " fn", "1 made [] asked []"},
		step{f + " fn g() -> int = h();", "1 made [] asked []"},
		step{f + g + f, "1 made [] asked []"},
		step{f + g + many, "1 made [] asked []"},
		step{f + g, "0 made [] asked []"},
		step{"fn", "1 made [] asked []"},
		step{f + g, "2 made [] asked []"},
		step{"fn", "1 made [] asked []"},
		step{f + " fn g(x: int) -> int = f(x + 1);", "2 made [g] asked [g.0]"},
		// Nothing is a right text too: behind it all is new.
		step{"// nothing", "0 made [] asked []"},
		step{f, "1 made [f] asked [f.0]"},
	)
	// At first there is no old text.
	steps(t,
		step{"fn f(", "1 made [] asked []"},
		step{"", "0 made [] asked []"},
		step{f, "1 made [f] asked [f.0]"},
	)
}

// TestCone: what a change touches is asked of again, and nothing else.
func TestCone(t *testing.T) {
	const (
		quals = "qual p(a) = a >= 0; qual q(a) = a < 10;"
		down  = " fn down(n: int) -> int = if n <= 0 then 0 else down(n - 1);"
		use   = " fn use(n: int) -> int = 1 / (down(n) + 1);"
		other = " fn other(n: int) -> int = 5 / (n + 1);"
		main  = " pub fn main(a: int{v >= 0}) -> int = use(a) + other(3);"
	)
	steps(t,
		step{quals + down + use + other + main, "6 made [down use other main] asked [down.0 down.1 main.0 main.1 other.0 other.1 use.0 use.1 use.2]"},
		// Another argument: other's places, and its formulas.
		step{quals + down + use + other + " pub fn main(a: int{v >= 0}) -> int = use(a) + other(4);", "1 made [main] asked [down.0 down.1 main.0 main.1 other.0 other.1 use.0 use.1 use.2]"},
		// A function that nobody calls: its own.
		step{quals + down + use + other + " pub fn main(a: int{v >= 0}) -> int = use(a) + other(4);" + " fn own(n: int) -> int = 1 / n;", "1 made [own] asked [own.0 own.1]"},
		// It is gone again: nobody's place is touched.
		step{quals + down + use + other + " pub fn main(a: int{v >= 0}) -> int = use(a) + other(4);", "0 made [] asked []"},
		// What called a function is gone: its places may say more.
		step{quals + down + use + other, "0 made [] asked [down.0 down.1 other.0 other.1 use.0 use.1 use.2]"},
		// One way down: what is behind is touched, what is ahead isn't.
		step{quals + down + use + " fn other(n: int) -> int = 5 / (n + 2);", "1 made [other] asked [other.0 other.1]"},
		step{quals + down + " fn use(n: int) -> int = 2 / (down(n) + 1);" + " fn other(n: int) -> int = 5 / (n + 2);", "1 made [use] asked [down.0 down.1 use.0 use.1 use.2]"},
		// Qualifiers that are printed so are the same; in another order they aren't.
		step{"qual  p(a)= a >= (0) ;// \n qual q(a) = a < 10;" + down + other, "3 made [other] asked [down.0 down.1 other.0 other.1]"},
		step{quals + down + other, "2 made [] asked []"},
		step{" qual q(a) = a < 10;qual p(a) = a >= 0;" + down + other, "0 made [] asked [down.0 down.1 other.0 other.1]"},
	)
}

// TestFindings: heads by the change alone are those of the whole.
func TestFindings(t *testing.T) {
	const quals, f = "qual p(a) = a >= 0;", " fn f(x: int) -> int = x;"
	e := engine.New()
	for _, c := range []struct{ text, want string }{
		{quals + f + " pub fn g() -> int = f(1);", "f(x: int{v >= 0}) -> int{v >= 0}\ng() -> int"},
		{quals + f + " pub fn g() -> int = f(-1);", "f(x: int) -> int\ng() -> int"},
		{quals + f, "f(x: int{v >= 0}) -> int{v >= 0}"},
		{quals + f + " pub fn g(y: int) -> int = f(y);", "f(x: int) -> int\ng(y: int) -> int"},
		{quals + f + " fn g(y: int) -> int = f(y);", "f(x: int{v >= 0}) -> int{v >= 0}\ng(y: int{v >= 0}) -> int{v >= 0}"},
		{quals + f + " pub fn h() -> int = g(-5); fn g(y: int) -> int = f(y);", "f(x: int) -> int\nh() -> int\ng(y: int) -> int"},
		{f, "f(x: int) -> int"},
		{f + " qual n(b) = b < 0;", "f(x: int{v < 0}) -> int{v < 0}"},
		{f + " qual n(c) = c < 0; qual p(a) = a >= 0;", "f(x: int{v < 0 and v >= 0}) -> int{v < 0 and v >= 0}"},
		{"qual p(a) = a >= 0;" + " pub" + f, "f(x: int) -> int"},
		// Qualifiers are others too where their bodies are the same.
		{"qual l(a, b) = a <= b; fn h(x: int, y: int{v >= x}) -> int = y;", "h(x: int, y: int{v >= x}) -> int{v <= y}"},
		{"qual l(b, a) = a <= b; fn h(x: int, y: int{v >= x}) -> int = y;", "h(x: int, y: int{v >= x}) -> int{x <= v and y <= v}"},
		{"qual l(a, b) = a < a + 1; fn h(x: int) -> int = x;", "h(x: int) -> int{v < v + 1}"},
		{"qual l(a) = a < a + 1; fn h(x: int) -> int = x;", "h(x: int{v < v + 1}) -> int{v < v + 1}"},
	} {
		r := e.Update([]byte(c.text))
		if heads(r) != c.want {
			t.Errorf("%s\n  got %s\n  not %s", c.text, heads(r), c.want)
		}
		if !reflect.DeepEqual(r, check.Check([]byte(c.text))) {
			t.Errorf("%s\n  got %v", c.text, r)
		}
	}
}

// TestSpansMove: what isn't made or asked again is told where it stands now.
func TestSpansMove(t *testing.T) {
	const f, g = "fn f(x: int) -> int = 1 / x;", " fn g(x: int) -> int = assert x > 1 in x;"
	long := "fn h() -> int = 1" + strings.Repeat(" + 1", 50) + ";"
	steps(t,
		step{f + g, "2 made [f g] asked [f.0 g.0]"},
		step{long + f + g, "1 made [h] asked []"},
		step{f + long + g, "0 made [] asked []"},
		step{g + f, "0 made [] asked []"},
	)
}
