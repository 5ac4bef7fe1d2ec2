package smt_test

import (
	"math"
	"reflect"
	"slices"
	"testing"

	"whetstone/api"
	"whetstone/big"
	"whetstone/formula"
	"whetstone/linear"
	"whetstone/smt"
)

// The tests of this file are of P1: the rules that hold everywhere.

// copying makes copies in memory of their own: of lists, or, if spare, of all that
// lies in their room too.
type copying struct{ spare bool }

func listed[T any](c copying, l []T, one func(T) T) []T {
	if c.spare {
		l = l[:cap(l)]
	}
	var out []T
	for _, v := range l {
		out = append(out, one(v))
	}
	return out
}

func (c copying) number(n big.Int) big.Int {
	return big.Int{Neg: n.Neg, Mag: listed(c, n.Mag, func(l uint32) uint32 { return l })}
}

func (c copying) sum(t linear.Term) linear.Term {
	return linear.Term{Const: c.number(t.Const), Parts: listed(c, t.Parts, func(p linear.Part) linear.Part {
		return linear.Part{Var: p.Var, Coef: c.number(p.Coef)}
	})}
}

func (c copying) formula(f formula.F) formula.F {
	return formula.F{Kind: f.Kind, Var: f.Var, T: c.sum(f.T), Args: listed(c, f.Args, c.formula)}
}

func (c copying) formulas(l []formula.F) []formula.F { return listed(c, l, c.formula) }

func (c copying) apps(l []smt.App) []smt.App {
	return listed(c, l, func(a smt.App) smt.App {
		return smt.App{Fn: a.Fn, Args: listed(c, a.Args, c.sum), Var: a.Var}
	})
}

// roomy is a formula whose lists have spare room, with something in it.
func (m *maker) roomy(f formula.F) formula.F {
	args := make([]formula.F, 0, len(f.Args)+2)
	for _, a := range f.Args {
		args = append(args, m.roomy(a))
	}
	f.Args = append(args, formula.Truth(77), formula.No())[:len(f.Args)]
	f.T.Parts = m.loose(f.T).Parts
	return f
}

// loose is the same sum, in no order, with variables twice and 0 times, and room.
func (m *maker) loose(t linear.Term) linear.Term {
	var parts []linear.Part
	for _, p := range t.Parts {
		n := big.Of(int64(m.number()))
		parts = append(parts, linear.Part{Var: p.Var, Coef: n}, linear.Part{Var: p.Var, Coef: big.Sub(p.Coef, n)}, linear.Part{Var: m.variable(), Coef: big.Int{Neg: true, Mag: []uint32{0, 0}}})
	}
	m.Shuffle(len(parts), func(i, j int) { parts[i], parts[j] = parts[j], parts[i] })
	all := append(parts, linear.Part{Var: 1, Coef: big.Of(99)}, linear.Part{Var: 2, Coef: big.Of(-99)})
	return linear.Term{Const: big.Int{Neg: t.Const.Neg, Mag: append(slices.Clone(t.Const.Mag), 0)}, Parts: all[:len(parts)]}
}

// Lists that are handed in aren't changed, their spare room neither; sums in any form
// mean the same.
func TestListsAreLeft(t *testing.T) {
	s := smt.New()
	for seed := range 300 {
		m := newMaker(seed, 4, 2, 4)
		plain, apps := m.formulas(4, 3), m.apps(4)
		want := asked(t, smt.New(), plain[:3], apps[:3])
		valid := follows(t, smt.New(), plain[:2], plain[2], apps[:3])
		var l []formula.F
		for _, f := range plain {
			l = append(l, m.roomy(f))
		}
		for i, a := range apps {
			for j, t := range a.Args {
				apps[i].Args[j] = m.loose(t)
			}
		}
		whole := copying{spare: true}
		before, beforeApps := whole.formulas(l), whole.apps(apps)
		if asked(t, s, l[:3], apps[:3]) != want || follows(t, s, l[:2], l[2], apps[:3]) != valid {
			t.Fatalf("seed %d: sums in another form mean something else", seed)
		}
		for _, a := range apps {
			smt.Key(a)
		}
		if !reflect.DeepEqual(whole.formulas(l), before) || !reflect.DeepEqual(whole.apps(apps), beforeApps) {
			t.Fatalf("seed %d: what was handed in is changed", seed)
		}
	}
}

// What is handed in isn't kept: it may be changed behind a call.
func TestListsAreNotKept(t *testing.T) {
	s := smt.New()
	for seed := range 200 {
		m := newMaker(seed, 4, 2, 4)
		l, apps := copying{}.formulas(m.formulas(3, 2)), copying{}.apps(m.apps(3))
		want := asked(t, s, l, apps)
		again, againApps := copying{}.formulas(l), copying{}.apps(apps)
		for i := range l {
			scribble(&l[i])
		}
		for i, a := range apps {
			for j := range a.Args {
				scribbleTerm(&a.Args[j])
			}
			apps[i] = smt.App{Fn: 99}
		}
		if asked(t, s, again, againApps) != want {
			t.Fatalf("seed %d: %v isn't %v any more", seed, texts(again), want)
		}
	}
}

func scribble(f *formula.F) {
	for i := range f.Args {
		scribble(&f.Args[i])
	}
	scribbleTerm(&f.T)
	f.Kind, f.Var = formula.No().Kind, -9
}

func scribbleTerm(t *linear.Term) {
	for i := range t.Parts {
		t.Parts[i] = linear.Part{Var: -5, Coef: big.Of(12345)}
	}
	t.Const = big.Of(54321)
}

// Nil and empty lists are one.
func TestNilLists(t *testing.T) {
	s := smt.New()
	for _, l := range [][]formula.F{nil, {}} {
		for _, apps := range [][]smt.App{nil, {}} {
			if !asked(t, s, l, apps) || follows(t, s, l, formula.No(), apps) || !follows(t, s, l, formula.Yes(), apps) {
				t.Error("of nothing")
			}
		}
	}
	for _, a := range [][]linear.Term{nil, {}} {
		for _, b := range [][]linear.Term{nil, {}} {
			apps := []smt.App{{Fn: 1, Args: a, Var: 0}, {Fn: 1, Args: b, Var: 1}}
			if asked(t, s, []formula.F{differ(x(0), x(1))}, apps) || smt.Key(apps[0]) != smt.Key(apps[1]) {
				t.Error("a function of no sums")
			}
		}
	}
	for _, parts := range [][]linear.Part{nil, {}} {
		if !asked(t, s, []formula.F{{Kind: formula.Le, T: linear.Term{Parts: parts}}}, nil) {
			t.Error("a sum without parts")
		}
	}
}

// Solvers that were asked the same answer the same, and keep as much, whatever others
// are asked between.
func TestSameAnswers(t *testing.T) {
	a, b := smt.New(), smt.New()
	for seed := range 400 {
		m := newMaker(seed, 5, 3, 5)
		l, apps := m.formulas(1+m.Intn(5), 3), m.apps(m.Intn(6))
		other := smt.New()
		asked(t, other, m.formulas(2, 2), m.apps(2))
		if asked(t, a, l, apps) != asked(t, b, copying{}.formulas(l), copying{}.apps(apps)) {
			t.Fatalf("seed %d: %v has two answers", seed, texts(l))
		}
		if a.Vars() != b.Vars() || a.Clauses() != b.Clauses() || a.Learned() != b.Learned() || a.Asked() != b.Asked() {
			t.Fatalf("seed %d: %v leaves two counts", seed, texts(l))
		}
	}
}

// Counting changes nothing.
func TestCountsChangeNothing(t *testing.T) {
	s := smt.New()
	asked(t, s, []formula.F{formula.Any(formula.Truth(0), formula.LtF(x(0), num(3)))}, nil)
	asks, vars, clauses, learned := s.Asked(), s.Vars(), s.Clauses(), s.Learned()
	if asks != 1 || vars != 3 || clauses == 0 {
		t.Error("counts are", asks, vars, clauses)
	}
	for range 3 {
		if s.Asked() != asks || s.Vars() != vars || s.Clauses() != clauses || s.Learned() != learned {
			t.Error("a count changed")
		}
	}
}

// Trees that nobody makes on purpose: each call ends, and none panics.
func TestStrange(t *testing.T) {
	s := smt.New()
	kinds := []int{math.MinInt, -1, 0, 1, 2, 3, 4, 5, 6, 7, math.MaxInt}
	m := newMaker(1, 3, 2, 3)
	var build func(depth int) formula.F
	build = func(depth int) formula.F {
		f := formula.F{Kind: kinds[m.Intn(len(kinds))], Var: m.number(), T: m.loose(m.sum())}
		for range m.Intn(3) * min(depth, 1) {
			f.Args = append(f.Args, build(depth-1))
		}
		return f
	}
	for range 2000 {
		f, g := build(4), build(4)
		all, e := s.Sat([]formula.F{f, g}, nil)
		if e != api.OK || all != slowly([]formula.F{f, g}, nil) {
			t.Fatalf("%v is %v", texts([]formula.F{f, g}), all)
		}
	}
}
