package run_test

import (
	"reflect"
	"slices"
	"strings"
	"testing"

	"whetstone/api"
	"whetstone/big"
	"whetstone/formula"
	"whetstone/gen"
	"whetstone/linear"
	"whetstone/run"
	"whetstone/syntax"
)

// TestValues: what is made has the kind, the one field of it, and numbers in their
// one form.
func TestValues(t *testing.T) {
	long := big.Int{Neg: true, Mag: []uint32{5, 0, 0}}
	nought := big.Int{Neg: true, Mag: []uint32{0, 0}}
	for _, c := range []struct {
		v    val
		want val
	}{
		{run.Num(long), val{Base: api.Int, N: big.Of(-5)}},
		{run.Num(nought), val{Base: api.Int}},
		{run.Num(big.Int{}), val{Base: api.Int}},
		{run.Truth(true), val{Base: api.Bool, B: true}},
		{run.Truth(false), val{Base: api.Bool}},
		{run.Array([]big.Int{long, nought, big.Of(7)}), val{Base: api.Arr, L: []big.Int{big.Of(-5), {}, big.Of(7)}}},
		{run.Array(nil), val{Base: api.Arr}},
		{run.Array([]big.Int{}), val{Base: api.Arr}},
	} {
		if shown(c.v) != shown(c.want) || c.v.Base != c.want.Base {
			t.Errorf("%v, not %v", c.v, c.want)
		}
	}
}

// TestEqual: of values just what their kinds name counts.
func TestEqual(t *testing.T) {
	l := []val{
		value("0"), value("5"), value("-5"), value("4294967301"), value("true"), value("false"),
		value("[]"), value("[0]"), value("[5]"), value("[5 0]"), value("[0 5]"), value("[-5 0]"), {}, {Base: 77},
	}
	for i, a := range l {
		for j, b := range l {
			if run.Equal(a, b) != (i == j) {
				t.Error(a, b, i != j)
			}
		}
	}
	odd := big.Int{Neg: true, Mag: []uint32{0}}
	same := [][2]val{
		{{Base: api.Int, N: big.Int{Mag: []uint32{5, 0}}}, {Base: api.Int, N: big.Of(5), B: true, L: []big.Int{{}}}},
		{{Base: api.Int, N: odd}, {Base: api.Int}},
		{{Base: api.Bool, B: true, N: big.Of(3)}, {Base: api.Bool, B: true, L: []big.Int{{}}}},
		{{Base: api.Arr, L: []big.Int{odd}, B: true}, {Base: api.Arr, L: []big.Int{{}}, N: big.Of(2)}},
		{{Base: api.Arr}, {Base: api.Arr, L: []big.Int{}}},
	}
	for _, x := range same {
		if !run.Equal(x[0], x[1]) || !run.Equal(x[1], x[0]) {
			t.Error(x)
		}
	}
}

// typeOf is the type of a text.
func typeOf(t testing.TB, s string) syntax.Type {
	t.Helper()
	it, at, e := syntax.Parse([]byte("fn f() -> " + s + " = 0;"))
	if e != api.OK {
		t.Fatal(s, at, e)
	}
	return it.Result
}

// TestHolds: by hand.
func TestHolds(t *testing.T) {
	for _, c := range []struct {
		typ, v string
		names  string // x=5 y=true
		want   bool
	}{
		{"int", "5", "", true},
		{"int", "true", "", true},
		{"bool", "false", "", true},
		{"arr 2", "[1 2]", "", true},
		{"arr 2", "[1 2 3]", "", true},
		{"int{v > 0}", "1", "", true},
		{"int{v > 0}", "0", "", false},
		{"bool{v}", "true", "", true},
		{"bool{v}", "false", "", false},
		{"bool{not v}", "false", "", true},
		{"int{v >= x}", "5", "x=5", true},
		{"int{v >= x}", "4", "x=5", false},
		{"int{v > x + y}", "4", "x=5 y=-2", true},
		{"int{v > x + y}", "3", "x=5 y=-2", false},
		{"int{b and v = 1 or not b and v = 2}", "2", "b=false x=1", true},
		{"int{b and v = 1 or not b and v = 2}", "2", "b=true x=2", false},
		{"bool{v or x = 1}", "false", "x=1 a=[1]", true},
		{"int{2 * v != x * -3}", "-3", "x=2", false},
		{"int{2 * v != x * -3}", "3", "x=2", true},
		{"int{true}", "3", "", true},
		{"int{false}", "3", "", false},
		{"int{v = 79228162514264337593543950336 * 79228162514264337593543950336}", "6277101735386680763835789423207666416102355444464034512896", "", true},
		// v is the value, whatever the names are; of a name twice the last one.
		{"int{v = 1}", "1", "v=2", true},
		{"int{v = x}", "1", "x=2 x=1", true},
	} {
		var names []string
		var values []val
		for _, pair := range strings.Fields(c.names) {
			name, is, _ := strings.Cut(pair, "=")
			names, values = append(names, name), append(values, value(is))
		}
		if run.Holds(typeOf(t, c.typ), value(c.v), names, values) != c.want {
			t.Error(c.typ, c.v, c.names, "isn't", c.want)
		}
	}
}

// TestHoldsJudged: drawn predicates of drawn values, held against what layer 17 says
// that they mean.
func TestHoldsJudged(t *testing.T) {
	so := map[bool]int{}
	for seed := range int64(6000) {
		m := newMaker(100000 + seed)
		heads := []kind{anInt, aTruth, anInt, {Base: api.Arr, Len: 2}}[:m.Intn(5)]
		head := fnHead{name: "f", params: heads, result: []kind{anInt, aTruth}[m.Intn(2)]}
		text := m.function(head) // for its names
		is := m.predicate(head.result)
		table := rightTable(t, strings.Split(text, ") -> ")[0]+") -> "+[]string{"", "int", "bool"}[head.result.Base]+"{"+is+"} = "+[]string{"", "0", "true"}[head.result.Base]+";")
		it, _ := table.Item(0)
		values := m.arguments(head.params)
		v := m.argument(head.result)
		var names []string
		var nums []gen.Named
		var truths []gen.NamedF
		for i, x := range append(values, v) {
			name := "v"
			if i < len(values) {
				name = it.Params[i].Name
				names = append(names, name)
			}
			switch x.Base {
			case api.Int:
				nums = append(nums, gen.Named{Name: name, T: linear.Of(x.N)})
			case api.Bool:
				f := formula.No()
				if x.B {
					f = formula.Yes()
				}
				truths = append(truths, gen.NamedF{Name: name, F: f})
			}
		}
		want := formula.Eval(gen.Pred(it.Result.Pred[0], nums, truths), formula.Val{})
		if got := run.Holds(it.Result, v, names, values); got != want {
			t.Fatalf("%s of %v, %v: %v", is, v, values, got)
		}
		so[want]++
	}
	if so[true] < 1000 || so[false] < 1000 {
		t.Error("drawn one-sidedly:", so)
	}
}

// TestHoldsOdd: what is no predicate of the value isn't so, and whatever is handed in,
// something is answered.
func TestHoldsOdd(t *testing.T) {
	for _, c := range []struct{ typ, v string }{
		{"int{v > 0}", "true"}, {"bool{v}", "1"}, {"int{v = 0}", "[0]"}, {"arr 2{true}", "[1]"},
		{"int{v}", "1"}, {"int{w > 0}", "1"}, {"int{f(v) > 0}", "1"}, {"int{1 / v > 0}", "1"}, {"int{1 % v = 0}", "0"},
		{"int{let x = v in true}", "1"}, {"int{if v > 0 then true else true}", "1"}, {"int{assert true in true}", "1"},
		{"arr 1{get(v, 0) = 0}", "[0]"}, {"arr 1{len(v) = 1}", "[0]"}, {"int{len(fill(1000000, 1)) = 1000000}", "1"},
		{"arr 1{get(set(v, 0, 1), 0) = 1}", "[0]"},
	} {
		if run.Holds(typeOf(t, c.typ), value(c.v), nil, nil) {
			t.Error(c.typ, c.v)
		}
	}
	pred := func(e syntax.Expr) syntax.Type { return syntax.Type{Base: api.Int, Pred: []syntax.Expr{e}} }
	for kind := -1; kind < 30; kind++ {
		for n := range 3 {
			run.Holds(pred(syntax.Expr{Kind: kind, Num: big.Of(-1), Args: make([]syntax.Expr, n)}), value("1"), nil, nil)
			run.Holds(pred(syntax.Expr{Kind: kind, Num: number("99999999999999999999"), Args: slices.Repeat([]syntax.Expr{{Kind: syntax.True}}, n)}), value("1"), nil, nil)
		}
	}
	// Names without values, values without names.
	if run.Holds(typeOf(t, "int{v = x}"), value("0"), []string{"y", "x"}, values("0")) {
		t.Error("a name without a value has one")
	}
	if !run.Holds(typeOf(t, "int{v = x}"), value("7"), []string{"x"}, values("7", "8")) {
		t.Error("a value without a name says something")
	}
	run.Holds(syntax.Type{Base: 77, Pred: []syntax.Expr{{}}}, val{Base: 77}, nil, nil)
	if !run.Holds(syntax.Type{}, val{}, nil, nil) {
		t.Error("nothing is said of it")
	}
}

// TestHoldsLong: a row as long as a text may be.
func TestHoldsLong(t *testing.T) {
	const count = 200000
	if !run.Holds(typeOf(t, "int{v > 0"+strings.Repeat(" and v > 0", count)+"}"), value("1"), nil, nil) {
		t.Error("a long row isn't so")
	}
	if run.Holds(typeOf(t, "int{v > "+strings.Repeat("1 + ", count)+"1}"), value("200001"), nil, nil) {
		t.Error("a long sum is less")
	}
	if !run.Holds(typeOf(t, "int{v > "+strings.Repeat("1 + ", count)+"1}"), value("200002"), nil, nil) {
		t.Error("a long sum is more")
	}
}

// TestHoldsChangesNothing: neither lists, nor what stands behind them.
func TestHoldsChangesNothing(t *testing.T) {
	typ := typeOf(t, "int{v > x and not (v = x * 2 + 1)}")
	want := typeOf(t, "int{v > x and not (v = x * 2 + 1)}")
	names := []string{"x", "y", "mark"}
	l := values("3", "[1 2]", "77")
	v := value("8")
	if !run.Holds(typ, v, names[:2], l[:2]) {
		t.Error("it isn't so")
	}
	if !reflect.DeepEqual(typ, want) || !slices.Equal(names, []string{"x", "y", "mark"}) || !reflect.DeepEqual(l, values("3", "[1 2]", "77")) || !reflect.DeepEqual(v, value("8")) {
		t.Error("something is changed")
	}
}
