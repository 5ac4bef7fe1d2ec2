package check_test

import (
	"strings"
	"testing"

	"whetstone/base"
	"whetstone/check"
	"whetstone/gen"
	"whetstone/horn"
	"whetstone/syntax"
)

// TestHead: by hand.
func TestHead(t *testing.T) {
	const quals = `qual p(a) = a >= 0; qual l(a, b) = a < b or a = 2 * b; qual s(c, b, a) = not (c = a - (b - c)); qual m(a, b) = a > 0 and b > 0;`
	at := func(l ...int) []int { return l }
	p, n := horn.Inst{Qual: 0}, gen.Result
	for _, c := range []struct {
		fn   string
		is   map[int][]horn.Inst
		want string
	}{
		{"fn f() -> int = 1;", nil, "f() -> int"},
		{"fn f() -> int = 1;", map[int][]horn.Inst{n: {p}}, "f() -> int{v >= 0}"},
		{"pub fn f(x:int,y:bool{v})->arr 3=fill(3,x);", nil, "f(x: int, y: bool{v}) -> arr 3"},
		{"fn f(x:int{v>(0+1)*2},y:arr 0)->bool{v or x=1}=true;", nil, "f(x: int{v > (0 + 1) * 2}, y: arr 0) -> bool{v or x = 1}"},
		// Names stand for others all at once; brackets stand where they must.
		{"fn f(b: int, a: int) -> int = 1;", map[int][]horn.Inst{
			0: {p},
			1: {p, {Qual: 1, At: at(0)}},
			n: {{Qual: 1, At: at(1)}, {Qual: 2, At: at(1, 0)}, {Qual: 2, At: at(1, 1)}, {Qual: 3, At: at(0)}},
		}, "f(b: int{v >= 0}, a: int{v >= 0 and (v < b or v = 2 * b)}) -> int{(v < a or v = 2 * a) and not (v = b - (a - v)) and not (v = a - (a - v)) and (v > 0 and b > 0)}"},
		{"fn f(b: int) -> int = 1;", map[int][]horn.Inst{n: {{Qual: 3, At: at(0)}, p}}, "f(b: int) -> int{v >= 0 and (v > 0 and b > 0)}"},
		{"fn f(b: int) -> int = 1;", map[int][]horn.Inst{n: {{Qual: 1, At: at(0)}}}, "f(b: int) -> int{v < b or v = 2 * b}"},
		{"fn f(b: int) -> int = 1;", map[int][]horn.Inst{n: {{Qual: 3, At: at(0)}}}, "f(b: int) -> int{v > 0 and b > 0}"},
		// Numbers alone are stood for, those with a predicate too.
		{"fn f(a: bool, b: int{v > 0}, c: arr 2, d: int) -> int = 1;", map[int][]horn.Inst{
			3: {{Qual: 3, At: at(0)}},
			n: {{Qual: 2, At: at(0, 1)}},
		}, "f(a: bool, b: int{v > 0}, c: arr 2, d: int{v > 0 and b > 0}) -> int{not (v = d - (b - v))}"},
		// Of a place that isn't open the written predicate, or none.
		{"pub fn f(x: int, y: int{v > x}) -> int = 1;", map[int][]horn.Inst{0: {p}, 1: {p}, n: {p}}, "f(x: int, y: int{v > x}) -> int"},
		{"fn f(x: int{v > 3}, y: bool) -> bool = true;", map[int][]horn.Inst{0: {p}, 1: {p}, n: {p}}, "f(x: int{v > 3}, y: bool) -> bool"},
		// What isn't a qualifier, or doesn't fit, says nothing.
		{"fn f(x: int) -> int = 1;", map[int][]horn.Inst{0: {{Qual: 9}, {Qual: -1}, {Qual: 1, At: at(0)}}, n: {{Qual: 0, At: at(0)}, {Qual: 1}, {Qual: 1, At: at(1)}, {Qual: 1, At: at(-1)}, {Qual: 2, At: at(0, 1)}}}, "f(x: int) -> int"},
	} {
		table, _ := tableOf(t, quals+c.fn)
		sol := horn.Sol{{Fn: "g", Pos: 0}: {p}, {Fn: "g", Pos: n}: {p}}
		for pos, l := range c.is {
			sol[gen.Kap{Fn: "f", Pos: pos}] = l
		}
		it, _ := table.Item(4)
		if got := check.Head(table, it, sol); got != c.want {
			t.Errorf("%s\n  got %s\n  not %s", c.fn, got, c.want)
		}
	}
}

// TestHeadOfNothing: what isn't there is nothing.
func TestHeadOfNothing(t *testing.T) {
	table, _ := tableOf(t, "qual p(a) = a > 0; fn f(x: int) -> int = 1;")
	q, _ := table.Item(0)
	f, _ := table.Item(1)
	if got := check.Head(table, q, nil); got != "" {
		t.Error("a qualifier has no head:", got)
	}
	if got := check.Head(table, f, nil); got != "f(x: int) -> int" {
		t.Error(got)
	}
	if got := check.Head(nil, f, horn.Sol{{Fn: "f"}: {{Qual: 0}}}); got != "f(x: int) -> int" {
		t.Error(got)
	}
	check.Head(table, syntax.Item{}, nil)
	check.Head(table, syntax.Item{Kind: syntax.Fn, Params: make([]syntax.Param, 9)}, nil)
	odd := base.New([]syntax.Item{{Kind: syntax.Qual}})
	if got := check.Head(odd, f, horn.Sol{{Fn: "f"}: {{Qual: 0}, {Qual: 0, At: []int{0}}}}); got != "f(x: int) -> int" {
		t.Error(got)
	}
}

// TestHeadOfALongRow: as long as a text may be.
func TestHeadOfALongRow(t *testing.T) {
	row := strings.Repeat(" + a", 200000)
	s := "qual p(a) = a" + row + " > 0; fn f(x: int) -> int = f(x);"
	table, _ := tableOf(t, s)
	f, _ := table.Item(1)
	want := "f(x: int{v" + strings.Repeat(" + v", 200000) + " > 0}) -> int"
	if got := check.Head(table, f, horn.Sol{{Fn: "f"}: {{Qual: 0}}}); got != want {
		t.Error(len(got), len(want))
	}
}
