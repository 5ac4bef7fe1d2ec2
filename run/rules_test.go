package run_test

import (
	"fmt"
	"math/rand"
	"reflect"
	"slices"
	"strings"
	"sync"
	"testing"

	"whetstone/api"
	"whetstone/base"
	"whetstone/big"
	"whetstone/run"
	"whetstone/syntax"
)

// roomy is a list with marked room behind it.
func roomy[T any](l []T, mark T) []T {
	return append(append(make([]T, 0, len(l)+2), l...), mark, mark)[:len(l)]
}

// roomyVal is a value all of whose lists have room, and end with limbs that say
// nothing.
func roomyVal(v val) val {
	v.N.Mag = roomy(append(slices.Clone(v.N.Mag), 0), 77)
	v.L = roomy(v.L, big.Of(77))
	for i, n := range v.L {
		v.L[i].Mag = roomy(append(slices.Clone(n.Mag), 0, 0), 77)
	}
	return v
}

// whole is all that a list of values has, the room too.
func whole(l []val) string {
	var s strings.Builder
	for _, v := range l[:cap(l)] {
		fmt.Fprint(&s, v.Base, v.B, v.N.Neg, v.N.Mag[:cap(v.N.Mag)])
		for _, n := range v.L[:cap(v.L)] {
			fmt.Fprint(&s, n.Neg, n.Mag[:cap(n.Mag)])
		}
	}
	return s.String()
}

// TestNothingIsChanged: neither the arguments, nor the room behind them, nor the
// table.
func TestNothingIsChanged(t *testing.T) {
	for seed := range int64(300) {
		m := newMaker(200000 + seed)
		s := m.text()
		table := rightTable(t, s)
		for _, h := range m.heads {
			args := m.arguments(h.params)
			plain := told(run.Call(table, h.name, args, 2000))
			for i, v := range args {
				args[i] = roomyVal(v)
			}
			args = roomy(args, run.Num(big.Of(77)))
			before := whole(args)
			if got := told(run.Call(table, h.name, args, 2000)); got != plain {
				t.Fatalf("%s\n  %s: %s, not %s", s, h.name, got, plain)
			}
			if whole(args) != before {
				t.Fatalf("%s\n  %s: the arguments are changed", s, h.name)
			}
		}
		other := rightTable(t, s)
		for i := range table.Count() {
			a, _ := table.Item(i)
			b, _ := other.Item(i)
			if !reflect.DeepEqual(a, b) {
				t.Fatalf("%s\n  an item is changed", s)
			}
		}
	}
}

// TestAnswersAreNew: whoever writes over an answer changes no argument, and no other
// answer.
func TestAnswersAreNew(t *testing.T) {
	table := rightTable(t, "fn f(a: arr 3) -> arr 3 = a; fn g(a: arr 3) -> arr 3 = set(a, 1, 9); fn h() -> arr 3 = fill(3, 5); fn i(a: arr 3, b: bool) -> arr 3 = if b then f(a) else let c = a in c;")
	for name, want := range map[string]string{"f": "[1 2 3]", "g": "[1 9 3]", "h": "[5 5 5]", "i": "[1 2 3]"} {
		args := values("[1 2 3]", "false")[:map[string]int{"f": 1, "g": 1, "h": 0, "i": 2}[name]]
		first, second := run.Call(table, name, args, 99), run.Call(table, name, args, 99)
		for i := range first.V.L {
			first.V.L[i] = big.Of(88)
		}
		_ = append(first.V.L, big.Of(88))
		if shown(second.V) != want || len(args) > 0 && shown(args[0]) != "[1 2 3]" {
			t.Error(name, shown(second.V), args)
		}
		for i := range args {
			for j := range args[i].L {
				args[i].L[j].Mag[0] = 66
			}
		}
		if shown(second.V) != want {
			t.Error(name, "keeps an argument:", shown(second.V))
		}
	}
	l := []big.Int{big.Of(1), big.Of(2)}
	v := run.Array(l)
	l[0] = big.Of(5)
	l[1].Mag[0] = 6
	n := big.Of(7)
	w := run.Num(n)
	n.Mag[0] = 8
	if shown(v) != "[1 2]" || shown(w) != "7" {
		t.Error("a value keeps what it was made of:", shown(v), shown(w))
	}
}

// TestDeep: functions that call each other as deep as there are steps; rows as long as
// there are steps.
func TestDeep(t *testing.T) {
	for _, s := range []string{
		"fn f() -> int = f();", "fn f() -> int = 1 + f();", "fn f() -> int = -g(1); fn g(x: int) -> int = let y = x in if y > 0 then f() else y;",
		"fn f() -> arr 1 = set(f(), 0, 1);", "fn f() -> bool = not f() and f();",
	} {
		if got := told(run.Call(rightTable(t, s), "f", nil, run.MostSteps)); got != "tire 0" {
			t.Error(s, got)
		}
	}
	const down = "fn f(n: int) -> int = if n <= 0 then 0 else 1 + f(n - 1);"
	if got := told(run.Call(rightTable(t, down), "f", values("13106"), run.MostSteps)); got != "done 7 13106" {
		t.Error(got)
	}
	fails(t, "fn f(n: int) -> int = if n <= 0 then 1 / n else 1 + f(n - 1);", "f", "1 / n", api.CodeZero, 10*300+7, "300")
	row := rightTable(t, "fn f() -> int = 1"+strings.Repeat(" + 1", 65535)+";")
	if got := told(run.Call(row, "f", nil, run.MostSteps)); got != "done 1 65536" {
		t.Error(got)
	}
	if got := told(run.Call(rightTable(t, "fn f() -> int = 1"+strings.Repeat(" + 1", 300000)+";"), "f", nil, run.MostSteps)); got != "tire 0" {
		t.Error(got)
	}
}

// TestGreat: numbers that are squared again and again, and great arrays.
func TestGreat(t *testing.T) {
	if got := told(run.Call(rightTable(t, "fn f(x: int) -> int = f(x * x);"), "f", values("3"), 20000)); got != "tire 0" {
		t.Error(got)
	}
	table := rightTable(t, "fn f(a: arr 1000000) -> int = len(a) + get(a, 999999); fn g(a: arr 1000000) -> arr 1000000 = set(a, 0, 1); fn h(a: arr 1000000) -> arr 1000000 = set(a, 1000000, 1);")
	a := []val{{Base: api.Arr, L: make([]big.Int, 1000000)}}
	for name, want := range map[string]string{"f": "done 131066 1000000", "g": "tire 0", "h": "fail 131068 h {39 57} 11"} {
		if got := told(run.Call(table, name, a, run.MostSteps)); got != want {
			t.Error(name, got)
		}
	}
}

// oddExpr is any tree, such as Parse makes none.
func oddExpr(m *rand.Rand, deep int) syntax.Expr {
	e := syntax.Expr{
		Kind: m.Intn(32) - 2,
		Name: []string{"", "v", "x", "f", "g", "q"}[m.Intn(6)],
		Num:  []big.Int{{}, big.Of(2), big.Of(-3), {Neg: true, Mag: []uint32{0, 0}}, {Mag: []uint32{0, 0, 0, 1}}, {Mag: []uint32{7, 0}}}[m.Intn(6)],
		Span: span{From: m.Intn(3) - 1, To: m.Intn(3) - 1},
	}
	for range m.Intn(4) {
		if deep > 0 {
			e.Args = append(e.Args, oddExpr(m, deep-1))
		}
	}
	return e
}

// TestOddTrees: items that aren't right, and such as Parse makes none: something is
// answered.
func TestOddTrees(t *testing.T) {
	ends := map[int]int{}
	for seed := range int64(8000) {
		m := newMaker(300000 + seed)
		var items []syntax.Item
		for _, name := range []string{"f", "g", "f"} {
			it := syntax.Item{Kind: syntax.Fn, Name: name, Body: oddExpr(m.Rand, 5), Result: syntax.Type{Base: m.Intn(5) - 1}}
			for range m.Intn(3) {
				it.Params = append(it.Params, syntax.Param{Name: m.one("x", "y"), Type: syntax.Type{Base: m.Intn(5), Len: m.Intn(3) - 1}})
			}
			items = append(items, it)
		}
		table := base.New(append(items, syntax.Item{Kind: syntax.Qual, Name: "q"}))
		for _, name := range []string{"f", "g", "q"} {
			var args []val
			i, _ := table.Find(syntax.Fn, name)
			it, _ := table.Item(i)
			for _, p := range it.Params {
				args = append(args, m.argument(kind{Base: max(1, min(p.Type.Base, 3)), Len: max(0, p.Type.Len)}))
			}
			o := run.Call(table, name, args, m.Intn(30))
			if o.Status < run.Done || o.Status > run.Odd || o.Left < 0 || o.Status > run.Fail && told(o) != told(out{Status: o.Status}) {
				t.Fatal(o)
			}
			ends[o.Status]++
		}
		run.Holds(syntax.Type{Base: api.Int, Pred: []syntax.Expr{oddExpr(m.Rand, 5)}}, value("3"), []string{"x"}, values("true"))
	}
	for status := run.Done; status <= run.Odd; status++ {
		if ends[status] < 100 {
			t.Error("drawn one-sidedly:", ends)
		}
	}
	// Items that are read, but aren't right.
	for _, s := range []string{
		"fn f() -> int = x;", "fn f() -> int = g();", "fn f() -> int = f(1);", "fn f() -> int = 1 + true;", "fn f() -> int = if 1 then 2 else 3;",
		"fn f() -> bool = not 1;", "fn f() -> int = get(1, true);", "fn f() -> int = len(true);", "fn f() -> arr 2 = set(1, 0, 0);",
		"fn f() -> int = assert 1 in 2;", "fn f() -> bool = fill(2, 1) = fill(2, 1);", "fn f() -> int = v;", "fn f() -> int = let x = 1 in let x = 2 in x;",
		"fn f() -> int = fill(2, true);", "fn f() -> int = q(1); qual q(a) = a > 0;",
	} {
		table, _ := readTable(t, s)
		run.Call(table, "f", nil, 100)
	}
	// A name stands for nothing behind its let, nor in what is called.
	for _, s := range []string{"fn f() -> int = (let x = 1 in x) + x;", "fn f() -> int = let x = 1 in g(); fn g() -> int = x;"} {
		table, _ := readTable(t, s)
		if got := told(run.Call(table, "f", nil, 100)); got != "odd 0" {
			t.Error(s, got)
		}
	}
}

// TestAtOnce: nothing is shared by calls.
func TestAtOnce(t *testing.T) {
	m := newMaker(5)
	s := m.text()
	for len(m.heads) < 3 {
		s = m.text()
	}
	table := rightTable(t, s)
	var wait sync.WaitGroup
	for _, h := range m.heads {
		args := m.arguments(h.params)
		want := told(run.Call(table, h.name, args, 3000))
		for range 8 {
			wait.Go(func() {
				if got := told(run.Call(table, h.name, args, 3000)); got != want {
					t.Errorf("%s\n  %s: %s, not %s", s, h.name, got, want)
				}
			})
		}
	}
	wait.Wait()
}
