package smt_test

import (
	"testing"

	"whetstone/formula"
	"whetstone/sat"
	"whetstone/smt"
)

// The tests of this file are of what is kept from question to question, and of P16.2.

// bounded: is no more kept than may be?
func bounded(t *testing.T, s *smt.Solver) {
	t.Helper()
	if s.Vars() > smt.MostKept || s.Clauses() > smt.MostKept || s.Learned() > sat.MostLearned {
		t.Fatalf("%d variables, %d clauses, %d learnt ones are kept", s.Vars(), s.Clauses(), s.Learned())
	}
	if s.Vars() < 0 || s.Clauses() < 0 || s.Learned() < 0 {
		t.Fatal("less than nothing is kept")
	}
}

// Small questions without end: each time that more than half of the most is kept, all
// is forgotten ahead of the next question, and not sooner.
func TestKept(t *testing.T) {
	s := smt.New()
	forgotten := 0
	for i := range 6000 {
		before, much := s.Vars(), max(s.Vars(), s.Clauses()) > smt.MostKept/2
		v := i % 700
		hyps := []formula.F{formula.LtF(x(v), x(v+1)), formula.Any(formula.Truth(i), formula.LeF(x(v+1), num(i)))}
		if want := i%2 == 0; want != follows(t, s, append(hyps, formula.Neg(formula.Truth(i))), formula.LtF(x(v), num(i+1-i%2*5)), nil) {
			t.Fatal("question", i, "isn't", want)
		}
		bounded(t, s)
		if much {
			forgotten++
		}
		if much != (s.Vars() < before) {
			t.Fatalf("question %d: %d variables, then %d", i, before, s.Vars())
		}
	}
	if forgotten < 5 {
		t.Error("forgotten", forgotten, "times")
	}
}

// A question that is asked again makes nothing more, however often.
func TestKeptTwice(t *testing.T) {
	s := smt.New()
	m := newMaker(1, 5, 3, 4)
	var l [][]formula.F
	for range 10 {
		l = append(l, m.formulas(3, 2))
	}
	ask := func() (vars, clauses int) {
		for _, f := range l {
			asked(t, s, f, nil)
		}
		return s.Vars(), s.Clauses()
	}
	for range 20 {
		ask()
	}
	vars, clauses := ask()
	if vars == 0 || clauses == 0 {
		t.Error("nothing is kept")
	}
	for range 20 {
		if v, c := ask(); v != vars || c > clauses+20 {
			t.Fatalf("%d variables and %d clauses became %d and %d", vars, clauses, v, c)
		}
	}
}

// A question may be as great as it likes; what it made is forgotten ahead of the next.
func TestKeptGreat(t *testing.T) {
	s := smt.New()
	var l []formula.F
	for i := range 3 * smt.MostKept {
		l = append(l, formula.Any(formula.Truth(i), formula.LtF(x(i%9), num(i))))
	}
	for range 3 {
		if !asked(t, s, l, nil) {
			t.Error("a great question can't be")
		}
		if s.Vars() <= smt.MostKept {
			t.Error("a great question has", s.Vars(), "variables")
		}
		if asked(t, s, []formula.F{formula.LtF(x(0), x(0))}, nil) || s.Vars() != 0 || s.Clauses() != 0 {
			t.Error("a great question isn't forgotten")
		}
	}
}

// Drawn questions, with functions: all answers are those of new solvers, over all
// times that all is forgotten.
func TestKeptDrawn(t *testing.T) {
	s := smt.New()
	forgotten := 0
	for seed := range 3000 {
		m := newMaker(seed, 6, 3, 9)
		l, apps := m.formulas(1+m.Intn(4), 2), m.apps(m.Intn(5))
		for i := range l {
			l[i] = formula.Subst(l[i], 5, x(100+seed%97))
		}
		before := s.Vars()
		twice(t, s, asked(t, smt.New(), l, apps), l, apps)
		bounded(t, s)
		if s.Vars() < before {
			forgotten++
		}
	}
	if forgotten < 3 {
		t.Error("forgotten", forgotten, "times")
	}
}

// What was said of apps in one question says nothing in another one: of others, and
// of the same with other sums.
func TestAppsAreForgotten(t *testing.T) {
	s := smt.New()
	l := []formula.F{formula.EqF(x(0), x(1)), formula.EqF(x(2), num(1)), formula.EqF(x(3), num(2))}
	either := []formula.F{formula.Any(l[0], formula.Truth(0)), formula.Neg(formula.Truth(0)), l[1], l[2]}
	for range 3 {
		for _, l := range [][]formula.F{l, either} {
			for _, c := range []struct {
				apps []smt.App
				want bool
			}{
				{[]smt.App{call(1, 2, x(0)), call(1, 3, x(1))}, false},
				{nil, true},
				{[]smt.App{call(1, 3, x(1))}, true},
				{[]smt.App{call(1, 2, x(0)), call(2, 3, x(1))}, true},
				{[]smt.App{call(1, 2, x(0)), call(1, 3, x(4))}, true},
				{[]smt.App{call(1, 2, x(0)), call(1, 4, x(1))}, true},
				{[]smt.App{call(2, 3, x(0)), call(2, 2, x(1))}, false},
				{[]smt.App{call(1, 2, x(0), x(4)), call(1, 3, x(1), x(5))}, true},
				{[]smt.App{call(1, 2, x(0), x(5)), call(1, 3, x(1), x(5))}, false},
			} {
				if got := asked(t, s, l, c.apps); got != c.want {
					t.Fatalf("%v: %v", keys(c.apps), got)
				}
			}
		}
	}
}
