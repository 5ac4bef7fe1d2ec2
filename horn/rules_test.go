package horn_test

import (
	"reflect"
	"slices"
	"testing"

	"whetstone/base"
	"whetstone/formula"
	"whetstone/gen"
	"whetstone/horn"
	"whetstone/linear"
	"whetstone/smt"
	"whetstone/syntax"
)

// TestNil: nothing panics.
func TestNil(t *testing.T) {
	table := rightTable(t, loop)
	parts, places := partsOf(table), placesOf(table)
	var none *horn.Engine
	s := sol{places[0]: {{Qual: 7}}}
	none.Solve(table, parts, places, s)
	if len(s) != 1 || len(s[places[0]]) != 1 {
		t.Error("a nil engine solves something:", s)
	}
	if none.Holds(table, made(formed(formula.Yes())), 0, nil) {
		t.Error("a nil engine knows something")
	}
	e := horn.New()
	e.Solve(table, parts, places, nil)
	e.Solve(nil, parts, places, s)
	if len(s[places[0]]) != 0 {
		t.Error("there are no qualifiers:", s)
	}
	e.Solve(nil, nil, nil, nil)
	e.Solve(table, nil, nil, s)
	if !e.Holds(nil, made(formed(formula.Yes()), used(places[0], num(1))), -1, sol{places[0]: {{Qual: 0}}}) {
		t.Error("what is so follows from anything")
	}
}

// TestWithoutSolver: an engine that isn't made by New gets one.
func TestWithoutSolver(t *testing.T) {
	table := rightTable(t, loop)
	var e horn.Engine
	s := sol{}
	e.Solve(table, partsOf(table), placesOf(table), s)
	if got, want := solText(table, s), solText(table, solved(table)); got != want {
		t.Error(got)
	}
	if e.S.Asked() != len(e.Queries) || len(e.Queries) == 0 {
		t.Error(e.S.Asked(), e.Queries)
	}
}

// TestNew: each engine is one of its own, and was asked nothing.
func TestNew(t *testing.T) {
	a, b := horn.New(), horn.New()
	if a.S == nil || a.S == b.S || a.S.Asked() != 0 || len(a.Queries) != 0 {
		t.Error(a, b)
	}
}

// TestOddConditions: those that gen doesn't make.
func TestOddConditions(t *testing.T) {
	table := rightTable(t, "qual p(a) = a > 0; qual l(a, b) = a < b; fn f(x: int) -> int = x;")
	k := kap{Fn: "f", Pos: gen.Result}
	x := linear.Var(0)
	deep := formula.Truth(0)
	for range 3000 {
		deep = formula.Neg(formula.All(deep, formula.Truth(1)))
	}
	apps := []smt.App{{Fn: -1}, {Fn: 2, Args: []term{x, {}}, Var: -7}}
	for _, c := range []gen.Cons{
		{}, {Head: gen.Hyp{IsK: true}}, made(used(k)), made(used(k, x)), made(used(k, x, x), used(k)), made(used(kap{Fn: "f", Pos: 9}, x)),
		made(used(k, linear.Var(-3))), made(used(k, x), gen.Hyp{}), made(used(k, x), formed(formula.F{Kind: 77})), made(formed(deep), formed(deep)),
		{Head: used(k, x, x), Apps: apps}, made(used(k, x), gen.Hyp{IsK: true, If: formula.Truth(3)}),
	} {
		e := horn.New()
		s := sol{}
		e.Solve(table, []horn.Part{{Fn: "f", Cons: []gen.Cons{c}}}, []kap{k, {}, {Fn: "f", Pos: 9}}, s)
		e.Holds(table, c, 0, s)
		e.Holds(table, c, 0, sol{k: {{Qual: 1, At: []int{0}}, {Qual: -1}, {Qual: 1, At: []int{-1}}}})
		if len(s[k]) > 2 {
			t.Error(s)
		}
	}
}

// TestHeadThatIsAUse: of a place that isn't sought nothing is asked by Solve.
func TestHeadThatIsAUse(t *testing.T) {
	table := rightTable(t, "qual p(a) = a > 0; fn f(x: int) -> int = x; fn g(x: int) -> int = f(x);")
	e := horn.New()
	s := sol{}
	e.Solve(table, partsOf(table), []kap{{Fn: "g", Pos: 0}}, s)
	if len(e.Queries) != 0 || e.S.Asked() != 0 {
		t.Error(e.Queries)
	}
	// A formula is no Use, whatever stands beside it; a place without a name is one
	// nobody means.
	formulas := []gen.Cons{made(formed(formula.No())), made(gen.Hyp{If: formula.Yes(), F: formula.No(), Use: used(kap{Fn: "f", Pos: 0}, num(0)).Use})}
	s = sol{}
	e.Solve(table, []horn.Part{{Fn: "f", Cons: formulas}}, []kap{{}, {Fn: "f", Pos: 0}}, s)
	if got := solText(table, s); got != "f.0: p()" || len(e.Queries) != 0 {
		t.Error(got, e.Queries)
	}
}

// TestQueries: what is asked is told of, one by one, and is of conditions whose Head
// is the Use of a place that is sought.
func TestQueries(t *testing.T) {
	asked := 0
	e := horn.New()
	for seed := range int64(300) {
		m := newMaker(100000 + seed)
		table := rightTable(t, m.text(4, 4))
		parts, places := partsOf(table), placesOf(table)
		places = slices.DeleteFunc(places, func(kap) bool { return m.Intn(2) == 0 })
		before := len(e.Queries)
		e.Solve(table, parts, places, sol{})
		for _, q := range e.Queries[before:] {
			i := slices.IndexFunc(parts, func(p horn.Part) bool { return p.Fn == q.Fn })
			if i < 0 || q.Cons < 0 || q.Cons >= len(parts[i].Cons) {
				t.Fatal("there is no such condition:", q)
			}
			if c := parts[i].Cons[q.Cons]; !c.Head.IsK || !slices.Contains(places, c.Head.Use.K) {
				t.Fatal("nobody wants to know:", q, c.Head, places)
			}
			asked++
		}
		if e.S.Asked() != len(e.Queries) {
			t.Fatal(e.S.Asked(), len(e.Queries))
		}
	}
	if asked < 300 {
		t.Error("little was asked:", asked)
	}
}

// TestParts: a part tells the name of its function, whatever its conditions say.
func TestParts(t *testing.T) {
	table := rightTable(t, "qual p(a) = a > 0; fn f(x: int) -> int = x;")
	c := made(used(kap{Fn: "f", Pos: 0}, num(1)))
	e := horn.New()
	e.Solve(table, []horn.Part{{Fn: "g", Cons: []gen.Cons{made(formed(formula.No())), c}}}, []kap{{Fn: "f", Pos: 0}}, sol{})
	if len(e.Queries) != 1 || e.Queries[0] != (horn.Query{Fn: "g", Cons: 1}) {
		t.Error(e.Queries)
	}
}

const spare = 2

// roomy is a list with marked room behind it.
func roomy[T any](l []T, mark T) []T {
	out := make([]T, len(l)+spare)
	n := copy(out, l)
	for i := range spare {
		out[n+i] = mark
	}
	return out[:n]
}

func roomyHyp(h gen.Hyp) gen.Hyp {
	h.Use.Args = roomy(h.Use.Args, num(77))
	return h
}

func roomyCons(c gen.Cons) gen.Cons {
	c.Hyps = roomy(c.Hyps, gen.Hyp{IsK: true})
	for i, h := range c.Hyps {
		c.Hyps[i] = roomyHyp(h)
	}
	c.Head = roomyHyp(c.Head)
	c.Apps = roomy(c.Apps, smt.App{Fn: 77})
	for i, a := range c.Apps {
		c.Apps[i].Args = roomy(a.Args, num(77))
	}
	return c
}

func roomyParts(l []horn.Part) []horn.Part {
	l = roomy(l, horn.Part{Fn: "mark"})
	for i, p := range l {
		l[i].Cons = roomy(p.Cons, gen.Cons{Fn: "mark"})
		for n, c := range l[i].Cons {
			l[i].Cons[n] = roomyCons(c)
		}
	}
	return l
}

func roomySol(s sol) sol {
	out := sol{}
	for k, l := range s {
		l = roomy(l, inst{Qual: 77})
		for i, x := range l {
			l[i].At = roomy(x.At, 77)
		}
		out[k] = l
	}
	return out
}

// whole is what a list has, its room too.
func whole[T any](l []T) []T { return slices.Clone(l[:cap(l)]) }

func wholeParts(l []horn.Part) []horn.Part {
	l = whole(l)
	for i, p := range l {
		l[i].Cons = whole(p.Cons)
		for n, c := range l[i].Cons {
			c.Hyps, c.Apps, c.Head.Use.Args = whole(c.Hyps), whole(c.Apps), whole(c.Head.Use.Args)
			for j, h := range c.Hyps {
				c.Hyps[j].Use.Args = whole(h.Use.Args)
			}
			for j, a := range c.Apps {
				c.Apps[j].Args = whole(a.Args)
			}
			l[i].Cons[n] = c
		}
	}
	return l
}

func wholeSol(s sol) sol {
	out := sol{}
	for k, l := range s {
		l = whole(l)
		for i, x := range l {
			l[i].At = whole(x.At)
		}
		out[k] = l
	}
	return out
}

// TestNothingIsChanged: lists that are handed in, the room behind them too; of a
// solution the places that are sought alone.
func TestNothingIsChanged(t *testing.T) {
	for seed := range int64(150) {
		m := newMaker(120000 + seed)
		table := rightTable(t, m.text(4, 3))
		parts, all := roomyParts(partsOf(table)), placesOf(table)
		if len(all) == 0 {
			continue
		}
		n := m.Intn(len(all) + 1)
		places := roomy(all[:n], kap{Fn: "mark"})
		s := roomySol(chosen(newJudge(table, nil, all[n:]).all(), m.Int()))
		others := wholeSol(s)
		wantParts, wantPlaces := wholeParts(parts), whole(places)
		e := horn.New()
		e.Solve(table, parts, places, s)
		if !reflect.DeepEqual(wholeParts(parts), wantParts) || !reflect.DeepEqual(whole(places), wantPlaces) {
			t.Fatal("Solve changes what is handed in")
		}
		after := copied(s)
		for k := range after {
			if !slices.Contains(all[n:], k) {
				delete(s, k)
			}
		}
		if !reflect.DeepEqual(wholeSol(s), others) {
			t.Fatal("Solve changes what is said of other places")
		}
		s = roomySol(after)
		want := wholeSol(s)
		for _, p := range parts {
			for i, c := range p.Cons {
				e.Holds(table, c, i, s)
			}
		}
		if !reflect.DeepEqual(wholeParts(parts), wantParts) || !reflect.DeepEqual(wholeSol(s), want) {
			t.Fatal("Holds changes what is handed in")
		}
	}
	table := rightTable(t, qualText(0, 3)+"fn f(x: int) -> int = x;")
	x, args := inst{At: roomy([]int{0, 0}, 77)}, roomy([]term{num(1), linear.Var(2)}, num(77))
	wantAt, wantArgs := whole(x.At), whole(args)
	f := formula.Text(horn.Formula(table, x, args))
	if !slices.Equal(whole(x.At), wantAt) || !reflect.DeepEqual(whole(args), wantArgs) || f != formula.Text(horn.Formula(table, x, args)) {
		t.Error("Formula changes what is handed in")
	}
}

// TestNothingIsKept: whoever writes over what was handed in, or answered, changes no
// other answer.
func TestNothingIsKept(t *testing.T) {
	kept := horn.New()
	for seed := range int64(150) {
		m := newMaker(140000 + seed)
		table := rightTable(t, m.text(4, 3))
		parts, places := partsOf(table), placesOf(table)
		want := solText(table, solved(table))
		s := sol{}
		kept.Solve(table, parts, places, s)
		for _, p := range parts {
			for i, c := range p.Cons {
				for _, h := range c.Hyps {
					clear(h.Use.Args)
				}
				clear(c.Hyps)
				clear(c.Apps)
				clear(c.Head.Use.Args)
				p.Cons[i] = gen.Cons{}
			}
		}
		clear(parts)
		clear(places)
		if got := solText(table, s); got != want {
			t.Fatalf("got %s, not %s", got, want)
		}
		again := sol{}
		kept.Solve(table, partsOf(table), placesOf(table), again)
		for k, l := range s {
			for i := range l {
				_ = append(l[i].At, 55)
				for j := range l[i].At {
					l[i].At[j] = 99
				}
				l[i].Qual = 99
			}
			_ = append(l, inst{Qual: 55}, inst{Qual: 55})
			delete(s, k)
			for k2, l2 := range s {
				if slices.ContainsFunc(l2, func(x inst) bool { return x.Qual >= 55 || slices.Contains(x.At, 99) }) {
					t.Fatal("two places share memory:", k, k2)
				}
			}
		}
		if got := solText(table, again); got != want {
			t.Fatalf("got %s, not %s", got, want)
		}
	}
}

// TestTableStays: a table never changes.
func TestTableStays(t *testing.T) {
	for seed := range int64(50) {
		table := rightTable(t, newMaker(160000+seed).text(4, 3))
		texts := func() []string {
			var l []string
			for i := range table.Count() {
				it, _ := table.Item(i)
				l = append(l, syntax.Print(it))
			}
			return l
		}
		want := texts()
		s := solved(table)
		for k := range s {
			horn.Insts(table, k)
		}
		if !slices.Equal(texts(), want) {
			t.Fatal("a table is changed")
		}
	}
}

// TestTwoOfOneName: a place is one of the first function of its name.
func TestTwoOfOneName(t *testing.T) {
	a, _, _ := syntax.Parse([]byte("fn f(x: int) -> int = 1;"))
	b, _, _ := syntax.Parse([]byte("fn f(x: bool, y: int) -> int = 1;"))
	q, _, _ := syntax.Parse([]byte("qual q(a, b) = a > b;"))
	table := base.New([]syntax.Item{q, a, b})
	if l := horn.Insts(table, kap{Fn: "f", Pos: gen.Result}); len(l) != 1 {
		t.Error(l)
	}
	if l := horn.Insts(table, kap{Fn: "f", Pos: 1}); len(l) != 0 {
		t.Error(l)
	}
}
