package base_test

import (
	"reflect"
	"runtime/debug"
	"slices"
	"strings"
	"testing"

	"whetstone/api"
	"whetstone/base"
	"whetstone/big"
	"whetstone/syntax"
)

const spare = 2

// roomy is a list with marked room behind it.
func roomy[T any](l []T, mark T) []T {
	out := make([]T, len(l)+spare)
	n := copy(out, l)
	for i := range spare {
		out[n+i] = mark
	}
	return out[:n]
}

// roomyExpr is the same tree, of its own memory, with room behind its lists.
func roomyExpr(e expr) expr {
	e.Num.Mag = roomy(e.Num.Mag, 77)
	e.Args = roomy(e.Args, expr{Name: "mark"})
	for i, part := range e.Args {
		e.Args[i] = roomyExpr(part)
	}
	return e
}

func roomyType(t syntax.Type) syntax.Type {
	t.Pred = roomy(t.Pred, expr{Name: "mark"})
	for i, e := range t.Pred {
		t.Pred[i] = roomyExpr(e)
	}
	return t
}

func roomyItem(it item) item {
	it.Params = roomy(it.Params, syntax.Param{Name: "mark"})
	for i, p := range it.Params {
		it.Params[i].Type = roomyType(p.Type)
	}
	it.Result, it.Body = roomyType(it.Result), roomyExpr(it.Body)
	return it
}

// unfolded is a tree with the room of its lists made part of them.
func unfolded(e expr) expr {
	e.Num.Mag = slices.Clone(e.Num.Mag[:cap(e.Num.Mag)])
	e.Args = slices.Clone(e.Args[:cap(e.Args)])
	for i, part := range e.Args {
		e.Args[i] = unfolded(part)
	}
	return e
}

func unfoldedType(t syntax.Type) syntax.Type {
	t.Pred = slices.Clone(t.Pred[:cap(t.Pred)])
	for i, e := range t.Pred {
		t.Pred[i] = unfolded(e)
	}
	return t
}

func unfoldedItem(it item) item {
	it.Params = slices.Clone(it.Params[:cap(it.Params)])
	for i, p := range it.Params {
		it.Params[i].Type = unfoldedType(p.Type)
	}
	it.Result, it.Body = unfoldedType(it.Result), unfolded(it.Body)
	return it
}

func unfoldedItems(l []item) []item {
	l = slices.Clone(l[:cap(l)])
	for i, it := range l {
		l[i] = unfoldedItem(it)
	}
	return l
}

// askAll makes every call, and answers what Check tells.
func askAll(table *base.Table) []base.Fault {
	var l []base.Fault
	for i := -1; i <= table.Count(); i++ {
		f, _ := table.Check(i)
		l = append(l, f)
		it, _ := table.Item(i)
		table.Qual(i)
		table.Find(it.Kind, it.Name)
		base.Calls(it)
		base.Constant(it.Body)
		base.KindOf(it.Result)
	}
	return l
}

// TestArgumentsStayAsTheyAre: no call changes them, nor the room behind them.
func TestArgumentsStayAsTheyAre(t *testing.T) {
	m := newMaker(6)
	for n := range 300 {
		m.slips = n % 10
		items := itemsOf(t, m.someItems()...)
		for i, it := range items {
			items[i] = roomyItem(it)
		}
		items = roomy(items, roomyItem(item{Name: "mark"}))
		want := unfoldedItems(items)
		first := askAll(base.New(items))
		if !reflect.DeepEqual(unfoldedItems(items), want) {
			t.Fatal("a call changes its arguments", items)
		}
		if !slices.Equal(askAll(base.New(items)), first) {
			t.Fatal("the same items are answered otherwise", items)
		}
	}
}

// TestTablesNeverChange: neither by their own calls, nor with the list that was
// handed in, nor by another table.
func TestTablesNeverChange(t *testing.T) {
	m := newMaker(7)
	for n := range 300 {
		m.slips = n % 10
		items := itemsOf(t, m.someItems()...)
		kept := slices.Clone(items)
		table := base.New(items)
		first, quals := askAll(table), table.Quals()
		clear(items)
		other := base.New(itemsOf(t, m.someItems()...))
		askAll(other)
		if !slices.Equal(askAll(table), first) || table.Quals() != quals || table.Count() != len(kept) {
			t.Fatal("the table has changed", kept)
		}
		for i, want := range kept {
			if it, there := table.Item(i); !there || !reflect.DeepEqual(it, want) {
				t.Fatalf("Item(%d) = %v, %v", i, it, there)
			}
		}
	}
}

// TestCheckAfterAFault: what is given up leaves nothing to the next call.
func TestCheckAfterAFault(t *testing.T) {
	table := tableOf(t, "fn f(x: int{v > zz}) -> int = 1; fn g() -> int = 1 / len(fill(1, 1)); fn h() -> int = let x = 1 in zz; fn k() -> int = let x = 1 in x; fn l() -> int = v;")
	for range 3 {
		var l []api.Errno
		for i := range 5 {
			f, _ := table.Check(i)
			l = append(l, f.E)
		}
		if !slices.Equal(l, []api.Errno{api.ErrName, api.OK, api.ErrName, api.OK, api.ErrName}) {
			t.Fatal("Check, item by item", l)
		}
	}
}

func TestCallsIsNewMemory(t *testing.T) {
	it := parsed(t, "fn f() -> int = g(h(), g(k()));")
	first := base.Calls(it)
	clear(first[:cap(first)])
	if got := base.Calls(it); !slices.Equal(got, []string{"g", "h", "k"}) {
		t.Error("Calls again", got)
	}
}

// oddExpr is a tree that Parse needn't make.
func (m *maker) oddExpr(deep int) expr {
	e := expr{Kind: m.Intn(31) - 2, Name: m.one("", "v", "p0", "num", "pick", "zz"), Span: api.Span{From: m.Intn(9), To: m.Intn(9)}}
	e.Num = big.Int{Neg: m.Intn(2) == 0, Mag: make([]uint32, m.Intn(4))}
	for range m.Intn(4) {
		if deep > 0 {
			e.Args = append(e.Args, m.oddExpr(deep-1))
		}
	}
	return e
}

func (m *maker) oddType() syntax.Type {
	t := syntax.Type{Base: m.Intn(6) - 1, Len: m.Intn(5) - 1}
	for range m.Intn(3) {
		t.Pred = append(t.Pred, m.oddExpr(3))
	}
	return t
}

func (m *maker) oddItem() item {
	it := item{Kind: m.Intn(5) - 1, Name: m.one("", "num", "pick", "zz"), Result: m.oddType(), Body: m.oddExpr(4)}
	for range m.Intn(4) {
		it.Params = append(it.Params, syntax.Param{Name: m.one("", "v", "p0", "p1", "p2"), Type: m.oddType()})
	}
	return it
}

// TestOddTrees: of what Parse doesn't make something is answered.
func TestOddTrees(t *testing.T) {
	m := newMaker(8)
	right := 0
	for range 20000 {
		var items []item
		for range 1 + m.Intn(4) {
			items = append(items, m.oddItem())
		}
		table := base.New(items)
		askAll(table)
		for i := range items {
			f, bad := table.Check(i)
			if bad != (f.E != api.OK) || bad && f.Item != i || !bad && f != (base.Fault{}) {
				t.Fatalf("Check(%d) = %v, %v", i, f, bad)
			}
			if !bad {
				right++
			}
		}
	}
	if right < 300 {
		t.Error("trees that have no fault:", right)
	}
}

// TestOddItems: each alone, with no parts at all.
func TestOddItems(t *testing.T) {
	for kind := -1; kind <= 30; kind++ {
		e := expr{Kind: kind}
		base.Constant(e)
		for _, it := range []item{
			{Kind: syntax.Fn, Body: e, Result: syntax.Type{Base: api.Int}},
			{Kind: syntax.Fn, Body: e, Result: syntax.Type{Base: api.Int, Pred: []expr{e}}},
			{Kind: syntax.Qual, Body: e},
			{Body: e},
			{Kind: 7, Body: expr{Kind: syntax.Mul, Args: []expr{e}}, Result: syntax.Type{Base: api.Arr, Len: -1}},
		} {
			askAll(base.New([]item{it}))
		}
	}
}

// longRow is a row of many parts.
func longRow(part, sign string, count int) string {
	return strings.Repeat(part+" "+sign+" ", count-1) + part
}

// TestLongRows: they may be as long as a text, though they lean to one side.
func TestLongRows(t *testing.T) {
	const many = 1 << 17
	defer debug.SetMaxStack(debug.SetMaxStack(8 << 20))
	sums, products, truths := longRow("n", "+", many), longRow("n", "*", many), longRow("t", "and", many)
	right(t, inBody("int", sums))
	right(t, inBody("int", products))
	right(t, inBody("bool", truths))
	checks(t, inBody("int", "n + [t] + "+sums), api.ErrType)
	checks(t, inBody("int", sums+" + [zz]"), api.ErrName)
	checks(t, inBody("int", "["+truths+"]"), api.ErrType)
	for _, s := range []string{sums + " > 0", truths, longRow("2", "*", many) + " * n > 0", "n * " + longRow("2", "*", many) + " > 0", longRow("n > 2 * m", "or", many/4)} {
		right(t, others+head+"int{"+s+"} = 0;")
	}
	checks(t, others+head+"int{["+products+"] > 0} = 0;", api.ErrPred)
	checks(t, others+head+"int{t and "+truths+" and ([n * m]) > 0} = 0;", api.ErrPred)
	if !base.Constant(exprOf(t, longRow("1", "-", many))) || base.Constant(exprOf(t, "n + "+longRow("1", "+", many))) {
		t.Error("Constant of long rows")
	}
	if got := base.Calls(parsed(t, "fn f() -> int = "+longRow("num() - mix(yes())", "+", many/4)+";")); !slices.Equal(got, []string{"num", "mix", "yes"}) {
		t.Error("Calls of a long row", got)
	}
}
