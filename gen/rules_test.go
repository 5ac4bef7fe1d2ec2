package gen_test

import (
	"fmt"
	"math/rand"
	"reflect"
	"slices"
	"strings"
	"testing"

	"whetstone/api"
	"whetstone/base"
	"whetstone/big"
	"whetstone/formula"
	"whetstone/gen"
	"whetstone/linear"
	"whetstone/smt"
	"whetstone/syntax"
)

const spare = 2

// roomy is a list with marked room behind it.
func roomy[T any](l []T, mark T) []T {
	out := make([]T, len(l)+spare)
	n := copy(out, l)
	for i := range spare {
		out[n+i] = mark
	}
	return out[:n]
}

// roomyExpr is the same tree, of its own memory, with room behind its lists.
func roomyExpr(e expr) expr {
	e.Num.Mag = roomy(e.Num.Mag, 77)
	e.Args = roomy(e.Args, expr{Name: "mark"})
	for i, part := range e.Args {
		e.Args[i] = roomyExpr(part)
	}
	return e
}

func roomyType(t syntax.Type) syntax.Type {
	t.Pred = roomy(t.Pred, expr{Name: "mark"})
	for i, e := range t.Pred {
		t.Pred[i] = roomyExpr(e)
	}
	return t
}

func roomyItem(it item) item {
	it.Params = roomy(it.Params, syntax.Param{Name: "mark"})
	for i, p := range it.Params {
		it.Params[i].Type = roomyType(p.Type)
	}
	it.Result, it.Body = roomyType(it.Result), roomyExpr(it.Body)
	return it
}

// unfolded is a tree with the room of its lists made part of them.
func unfolded(e expr) expr {
	e.Num.Mag = slices.Clone(e.Num.Mag[:cap(e.Num.Mag)])
	e.Args = slices.Clone(e.Args[:cap(e.Args)])
	for i, part := range e.Args {
		e.Args[i] = unfolded(part)
	}
	return e
}

func unfoldedType(t syntax.Type) syntax.Type {
	t.Pred = slices.Clone(t.Pred[:cap(t.Pred)])
	for i, e := range t.Pred {
		t.Pred[i] = unfolded(e)
	}
	return t
}

func unfoldedItem(it item) item {
	it.Params = slices.Clone(it.Params[:cap(it.Params)])
	for i, p := range it.Params {
		it.Params[i].Type = unfoldedType(p.Type)
	}
	it.Result, it.Body = unfoldedType(it.Result), unfolded(it.Body)
	return it
}

// TestItemsStayAsTheyAre: no call changes them, nor the room behind their lists; and
// the same is answered twice.
func TestItemsStayAsTheyAre(t *testing.T) {
	for seed := range int64(300) {
		items := itemsOf(t, newMaker(30000+seed).text())
		for i, it := range items {
			items[i] = roomyItem(it)
		}
		table := base.New(items)
		for i, it := range items {
			want := unfoldedItem(it)
			first := gen.Function(table, i)
			opens := gen.Opens(it)
			if !reflect.DeepEqual(unfoldedItem(it), want) {
				t.Fatal("a call changes its arguments", it)
			}
			if d := difference(gen.Function(table, i), first); d != "" || !slices.Equal(gen.Opens(it), opens) {
				t.Fatal("the same item is answered otherwise", d)
			}
		}
	}
}

// TestNamesStayAsTheyAre: the lists of Pred, the room behind them too.
func TestNamesStayAsTheyAre(t *testing.T) {
	nums := roomy([]gen.Named{{Name: "v", T: linear.Var(1)}, {Name: "a", T: num(2)}}, gen.Named{Name: "mark"})
	truths := roomy([]gen.NamedF{{Name: "p", F: formula.Truth(1)}}, gen.NamedF{Name: "mark"})
	wholeNums, wholeTruths := slices.Clone(nums[:cap(nums)]), slices.Clone(truths[:cap(truths)])
	e := roomyExpr(exprOf(t, "v < a and (p or 2 * v = 3)"))
	want := unfolded(e)
	f := gen.Pred(e, nums, truths)
	if !reflect.DeepEqual(nums[:cap(nums)], wholeNums) || !reflect.DeepEqual(truths[:cap(truths)], wholeTruths) || !reflect.DeepEqual(unfolded(e), want) {
		t.Error("Pred changes its arguments")
	}
	text := formText(f)
	clear(nums)
	clear(truths)
	if formText(f) != text {
		t.Error("Pred keeps a list that was handed in")
	}
}

// scribble writes over all lists of a condition, and over the room behind them.
func scribble(c *gen.Cons) {
	mark := gen.Hyp{IsK: true, Use: gen.Use{K: gen.Kap{Fn: "mark", Pos: 9}}}
	for i := range c.Hyps {
		clear(c.Hyps[i].Use.Args)
	}
	for i := range c.Apps {
		clear(c.Apps[i].Args)
		_ = append(c.Apps[i].Args, num(99))
	}
	clear(c.Head.Use.Args)
	_ = append(c.Head.Use.Args, num(99))
	clear(c.Hyps)
	clear(c.Apps)
	_ = append(c.Hyps, mark, mark)
	_ = append(c.Apps, smt.App{Fn: 99}, smt.App{Fn: 98})
}

// TestAnswersAreNewMemory: whoever changes a condition changes no other one, of the
// same answer or of another.
func TestAnswersAreNewMemory(t *testing.T) {
	for seed := range int64(300) {
		table := rightTable(t, newMaker(40000+seed).text())
		last := table.Count() - 1
		want := gen.Function(table, last)
		for i, c := range want {
			want[i] = tidy(c)
		}
		got := gen.Function(table, last)
		for i := range got {
			scribble(&got[i])
			if d := difference(got[i+1:], want[i+1:]); d != "" {
				t.Fatal("conditions share a list:", d)
			}
		}
		again := gen.Function(table, last)
		for i := range slices.Backward(again) {
			scribble(&again[i])
			if d := difference(again[:i], want[:i]); d != "" {
				t.Fatal("conditions share a list:", d)
			}
		}
		if d := difference(gen.Function(table, last), want); d != "" {
			t.Fatal("an answer is kept:", d)
		}
	}
	it := parsed(t, "fn f(x: int, y: int) -> int = 1;")
	clear(gen.Opens(it))
	if l := gen.Opens(it); len(l) != 3 || l[0].Fn != "f" {
		t.Error("Opens", l)
	}
}

// TestFieldsWithoutMeaning: of a formula there is no Use, of a Use no formula, and
// numbers alone have sums.
func TestFieldsWithoutMeaning(t *testing.T) {
	fields := func(h gen.Hyp) {
		if !h.IsK && !reflect.DeepEqual(h.Use, gen.Use{}) || h.IsK && !reflect.DeepEqual(h.F, form{}) {
			t.Errorf("fields without meaning: %v", h)
		}
	}
	for seed := range int64(100) {
		table := rightTable(t, newMaker(50000+seed).text())
		for i := range table.Count() {
			for _, c := range gen.Function(table, i) {
				fields(c.Head)
				if c.Head.If.Kind != formula.True {
					t.Error("a head that isn't always so", c)
				}
				for _, h := range c.Hyps {
					fields(h)
				}
			}
		}
	}
}

// wild is a tree that needn't be one that Parse makes.
func wild(r *rand.Rand, deep int) expr {
	e := expr{
		Kind: r.Intn(31) - 1, Name: []string{"", "v", "x", "b", "a", "f", "g", "zz"}[r.Intn(8)],
		Num:  big.Int{Neg: r.Intn(2) == 0, Mag: make([]uint32, r.Intn(3))},
		Span: api.Span{From: r.Intn(9) - 4, To: r.Intn(9)},
	}
	for deep > 0 && r.Intn(4) > 0 {
		e.Args = append(e.Args, wild(r, deep-1))
	}
	return e
}

func wildType(r *rand.Rand) syntax.Type {
	t := syntax.Type{Base: r.Intn(6) - 1, Len: r.Intn(9) - 4}
	for range r.Intn(3) {
		t.Pred = append(t.Pred, wild(r, 3))
	}
	return t
}

func wildItem(r *rand.Rand) item {
	it := item{Kind: 1 + r.Intn(5)/4, Pub: r.Intn(3) == 0, Name: []string{"", "f", "g"}[r.Intn(3)], Result: wildType(r), Body: wild(r, 5)}
	for range r.Intn(9) {
		it.Params = append(it.Params, syntax.Param{Name: []string{"v", "x", "b", "a"}[r.Intn(4)], Type: wildType(r)})
	}
	return it
}

// TestWildItems: whatever the items are, calls end and don't panic.
func TestWildItems(t *testing.T) {
	r := rand.New(rand.NewSource(1))
	for range 2000 {
		items := []item{wildItem(r), wildItem(r), wildItem(r)}
		table := base.New(items)
		for i, it := range items {
			if d := difference(gen.Function(table, i), gen.Function(table, i)); d != "" {
				t.Fatal("the same item is answered otherwise:", d)
			}
			gen.Opens(it)
			gen.Pred(it.Body, nil, nil)
		}
	}
}

// TestWrongItems: neither do they of items that Parse makes, and that aren't right.
func TestWrongItems(t *testing.T) {
	for _, s := range []string{
		"fn f(x: int) -> int = true;", "fn f(x: int) -> bool = x;", "fn f(x: bool) -> int = x + y;", "fn f() -> int = g(1);",
		"fn f(x: int, x: bool) -> int = f(x);", "fn f(x: arr 3{v > 0}) -> int = get(1, x);", "fn f() -> arr 2 = if 1 then fill(3, true) else 2;",
		"fn f(x: int{v / 2 > get(v, 1)}) -> int = f(f(true), 2, 3);", "fn f() -> int = f(1, 2, 3);", "fn f(a: int, b: bool, c: arr 1) -> int = f();",
		"fn f(x: int{v * v > 0}, y: int{if v then 1 else 2}) -> int = let x = x in x * x / set(x, x, x);", "fn f(x: int) -> int = len(x) + fill(0, x);",
	} {
		it := parsed(t, s)
		gen.Function(base.New([]item{it}), 0)
		gen.Opens(it)
		gen.Pred(it.Body, nil, []gen.NamedF{{Name: "x"}})
	}
}

// TestLong: rows as long as a text may be, and trees as deep as they may be.
func TestLong(t *testing.T) {
	const many = 200000
	for _, c := range []struct{ result, row string }{
		{"int{v > 0}", " + x"}, {"int{v > 0}", " - 1"}, {"int{v > 0}", " * 1"}, {"bool{v}", " and b"}, {"bool{v}", " or b"},
	} {
		first := strings.Fields(c.row)[1]
		body := first + strings.Repeat(c.row, many)
		s := "pub fn f(x: int, b: bool) -> " + c.result + " = " + body + ";"
		if l := gen.Function(base.New([]item{parsed(t, s)}), 0); len(l) != 1 || len(l[0].Hyps) != 0 {
			t.Errorf("a row of%s: %d conditions", c.row, len(l))
		}
	}
	gen.Pred(exprOf(t, "x"+strings.Repeat(" + 1", many)+" < 0"), nil, nil)
	gen.Pred(exprOf(t, "b"+strings.Repeat(" and b", many)), nil, nil)
}

func TestDeep(t *testing.T) {
	const deep = 1 << 16
	// Of others each is a condition, with all that is known: more than can be answered.
	for _, kind := range []int{syntax.Neg, syntax.Not, syntax.Let, syntax.Fill, syntax.Len, syntax.Call} {
		e := expr{Kind: syntax.Num}
		for range deep {
			e = expr{Kind: kind, Name: "g", Args: []expr{e}}
		}
		g := item{Kind: syntax.Fn, Pub: true, Name: "g", Params: []syntax.Param{{Name: "n", Type: syntax.Type{Base: api.Int}}}, Result: syntax.Type{Base: api.Int}}
		f := item{Kind: syntax.Fn, Pub: true, Name: "f", Body: e}
		gen.Function(base.New([]item{g, f}), 1)
		gen.Pred(e, nil, nil)
	}
}

// TestManyConditions: a function with as many as are met in a row.
func TestManyConditions(t *testing.T) {
	const many = 500
	var s strings.Builder
	for i := range many {
		fmt.Fprintf(&s, " + get(a, %d) + (if x > %d then x %% 2 else 1 / x)", i, i)
	}
	table := rightTable(t, "pub fn f(a: arr 9, x: int) -> int = 0"+s.String()+";")
	l := gen.Function(table, 0)
	if len(l) != 2*many {
		t.Fatal("conditions:", len(l))
	}
	if c := l[2*many-1]; len(c.Hyps) != 4*many-3+1+1 || len(c.Apps) != 2*many-1 {
		t.Error("the last one has", len(c.Hyps), len(c.Apps))
	}
}
