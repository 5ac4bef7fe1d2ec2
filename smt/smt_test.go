package smt_test

import (
	"math"
	"testing"

	"whetstone/api"
	"whetstone/big"
	"whetstone/formula"
	"whetstone/linear"
	"whetstone/smt"
)

// The tests of this file are of P16.1, by questions made by hand, and of what the
// calls are said to answer.

func TestExamples(t *testing.T) {
	same := []formula.F{formula.LeF(x(0), x(1)), formula.LeF(x(1), x(0)), formula.EqF(x(2), num(1)), formula.EqF(x(3), num(2))}
	expect(t, false, same, call(1, 2, x(0)), call(1, 3, x(1)))
	expect(t, true, same)
	half := formula.EqF(times(2, x(0)), num(1))
	b := formula.Truth(0)
	expect(t, false, []formula.F{formula.Any(b, formula.LtF(num(0), x(0))), formula.Neg(b), half})
	expect(t, true, []formula.F{formula.Any(b, formula.LtF(num(0), x(0))), formula.Neg(b)})
	expect(t, true, []formula.F{formula.EqF(sum(times(3, x(0)), times(5, x(1))), num(1))})
	expect(t, false, []formula.F{formula.EqF(x(0), x(1)), formula.EqF(x(2), num(1)), formula.EqF(x(3), num(2))}, call(7, 2, x(0)), call(7, 3, x(1)))
}

func TestKey(t *testing.T) {
	loose := linear.Term{Const: big.Of(5), Parts: []linear.Part{{Var: 3, Coef: big.Of(1)}, {Var: 1, Coef: big.Of(2)}, {Var: 3, Coef: big.Of(-1)}}}
	for _, c := range []struct {
		a    smt.App
		want string
	}{
		{call(0, 0), "f0"},
		{call(1, 9, x(0)), "f1(1*x0)"},
		{call(1, 7, x(0)), "f1(1*x0)"},
		{call(-12, 0, sum(x(2), num(-1)), num(0)), "f-12(1*x2-1)(0)"},
		{call(10, 0, x(1), x(1), x(0)), "f10(1*x1)(1*x1)(1*x0)"},
		{call(2, 0, loose), "f2(2*x1+5)"},
		{call(math.MinInt, 0), "f-9223372036854775808"},
		{call(3, 0, x(-4), linear.Term{}), "f3(1*x-4)(0)"},
	} {
		if got := smt.Key(c.a); got != c.want {
			t.Errorf("Key is %q, not %q", got, c.want)
		}
	}
}

// What a new solver knows, and one of the type's zero value.
func TestNew(t *testing.T) {
	for _, s := range []*smt.Solver{smt.New(), {}, nil} {
		if s.Asked() != 0 || s.Vars() != 0 || s.Clauses() != 0 || s.Learned() != 0 {
			t.Error("one that was asked nothing knows something")
		}
	}
	if smt.New() == nil {
		t.Error("New is nil")
	}
	s := &smt.Solver{}
	if asked(t, s, []formula.F{formula.LtF(x(0), x(0))}, nil) || !asked(t, s, []formula.F{formula.LtF(x(0), x(1))}, nil) {
		t.Error("a solver of the zero value")
	}
}

func TestNil(t *testing.T) {
	var s *smt.Solver
	for _, l := range [][]formula.F{nil, {formula.Yes()}, {formula.LtF(x(0), num(0))}} {
		if so, e := s.Sat(l, []smt.App{call(1, 0)}); so || e != api.ErrNil {
			t.Error("Sat of nil is", so, e)
		}
		if so, e := s.Valid(l, formula.Yes(), nil); so || e != api.ErrNil {
			t.Error("Valid of nil is", so, e)
		}
	}
	if s.Asked() != 0 {
		t.Error("nil was asked")
	}
}

// Each Sat and each Valid is a question, whatever they answer.
func TestAsked(t *testing.T) {
	s := smt.New()
	for i, f := range []formula.F{formula.Yes(), formula.No(), formula.Truth(0), formula.LtF(x(0), num(0)), formula.No(), {Kind: -1}} {
		s.Sat([]formula.F{f}, nil)
		if s.Asked() != 2*i+1 {
			t.Error("Asked is", s.Asked())
		}
		s.Valid(nil, f, nil)
		if s.Asked() != 2*i+2 {
			t.Error("Asked is", s.Asked())
		}
	}
}

func TestValid(t *testing.T) {
	b, c := formula.Truth(0), formula.Truth(1)
	for _, k := range []struct {
		hyps []formula.F
		goal formula.F
		want bool
	}{
		{nil, formula.Yes(), true},
		{nil, formula.No(), false},
		{nil, b, false},
		{nil, formula.Any(b, formula.Neg(b)), true},
		{[]formula.F{formula.No()}, formula.No(), true},
		{[]formula.F{b, formula.Neg(b)}, c, true},
		{[]formula.F{b}, c, false},
		{[]formula.F{formula.If(b, c), b}, c, true},
		{[]formula.F{formula.If(b, c), c}, b, false},
		{[]formula.F{formula.LtF(num(0), x(0))}, formula.LeF(num(1), x(0)), true},
		{[]formula.F{formula.LtF(num(0), x(0))}, formula.LeF(num(2), x(0)), false},
		{[]formula.F{formula.LtF(num(0), x(0))}, differ(x(0), num(0)), true},
		{[]formula.F{formula.LeF(num(0), x(0))}, differ(x(0), num(0)), false},
		{[]formula.F{formula.Iff(b, formula.LtF(x(0), x(1)))}, formula.Any(b, formula.LeF(x(1), x(0))), true},
		{[]formula.F{within(times(3, x(0)), 1, 8)}, within(x(0), 1, 2), true},
	} {
		if got := follows(t, smt.New(), k.hyps, k.goal, nil); got != k.want {
			t.Errorf("%v follows from %v: %v", formula.Text(k.goal), texts(k.hyps), got)
		}
	}
	apps := []smt.App{call(1, 1, x(0)), call(1, 3, x(2))}
	if !follows(t, smt.New(), []formula.F{formula.EqF(x(0), x(2))}, formula.EqF(x(1), x(3)), apps) {
		t.Error("a function isn't one")
	}
	if follows(t, smt.New(), []formula.F{formula.EqF(x(1), x(3))}, formula.EqF(x(0), x(2)), apps) {
		t.Error("a function tells what it was asked")
	}
}

// Formulas that say what is so whatever comes, in all their ways.
func TestConstants(t *testing.T) {
	yes, no := formula.Yes(), formula.No()
	for _, c := range []struct {
		f    formula.F
		want bool
	}{
		{yes, true},
		{no, false},
		{formula.F{}, false},
		{formula.F{Kind: 7}, false},
		{formula.F{Kind: -1, Args: []formula.F{yes}}, false},
		{formula.F{Kind: math.MaxInt}, false},
		{formula.Neg(formula.F{Kind: 99}), true},
		{formula.F{Kind: formula.Not}, true},
		{formula.Neg(formula.F{Kind: formula.Not}), false},
		{formula.F{Kind: formula.Not, Args: []formula.F{no, yes}}, true},
		{formula.F{Kind: formula.Not, Args: []formula.F{yes, no}}, false},
		{formula.All(), true},
		{formula.Any(), false},
		{formula.Neg(formula.All()), false},
		{formula.Neg(formula.Any()), true},
		{formula.F{Kind: formula.And, Args: []formula.F{}}, true},
		{formula.All(yes, formula.Any(no, yes)), true},
		{formula.Any(no, formula.All(yes, no)), false},
		{formula.F{Kind: formula.Le}, true},
		{formula.Below(num(-1)), true},
		{formula.Below(num(1)), false},
		{formula.F{Kind: formula.True, Args: []formula.F{no}, Var: 3, T: num(1)}, true},
		{formula.LtF(x(0), x(0)), false},
		{formula.EqF(sum(x(0), x(1)), sum(x(1), x(0))), true},
		{formula.All(formula.Truth(0), formula.Neg(formula.Truth(0))), false},
		{formula.Any(formula.Truth(0), formula.Neg(formula.Truth(0))), true},
		{formula.Iff(formula.Truth(0), formula.Neg(formula.Truth(0))), false},
	} {
		expect(t, c.want, []formula.F{c.f})
		expect(t, false, []formula.F{c.f, formula.No()})
		expect(t, c.want, []formula.F{formula.Any(formula.No(), c.f, c.f)})
		expect(t, c.want, []formula.F{formula.Neg(formula.Neg(c.f))})
	}
	expect(t, true, nil)
	expect(t, true, nil, call(1, 0), call(1, 1))
}

// A truth and a number's variable of one number are two things.
func TestApart(t *testing.T) {
	expect(t, true, []formula.F{formula.Truth(0), formula.LeF(x(0), num(-1)), formula.Neg(formula.Truth(1)), formula.LeF(num(5), x(1))})
	expect(t, true, []formula.F{formula.Neg(formula.Truth(0)), formula.LeF(num(1), x(0))})
}

// The same is said in many ways: sums times something, turned round, in no order.
func TestOneForm(t *testing.T) {
	s := smt.New()
	asked(t, s, []formula.F{formula.LeF(x(0), x(1))}, nil)
	vars := s.Vars()
	loose := linear.Term{Parts: []linear.Part{{Var: 1, Coef: big.Int{Neg: true, Mag: []uint32{3, 0}}}, {Var: 2, Coef: big.Int{Neg: true, Mag: []uint32{0}}}, {Var: 0, Coef: big.Of(2)}, {Var: 0, Coef: big.Of(1)}}, Const: big.Of(-2)}
	for _, f := range []formula.F{
		formula.LeF(times(7, x(0)), sum(times(7, x(1)), num(6))),
		{Kind: formula.Le, T: loose},
		formula.Neg(formula.LtF(x(1), x(0))),
		formula.Neg(formula.LeF(sum(times(2, x(1)), num(1)), times(2, x(0)))),
	} {
		if follows(t, s, []formula.F{f}, formula.LtF(x(1), x(0)), nil) || !follows(t, s, []formula.F{f}, formula.LeF(x(0), x(1)), nil) {
			t.Errorf("%v is another", formula.Text(f))
		}
	}
	if s.Vars() != vars {
		t.Errorf("of one atom %d variables are made", s.Vars())
	}
}

func TestFunctions(t *testing.T) {
	equal := func(l ...int) []formula.F {
		var out []formula.F
		for i := 0; i < len(l); i += 2 {
			out = append(out, formula.EqF(x(l[i]), x(l[i+1])))
		}
		return out
	}
	apart := differ(x(8), x(9))
	for _, c := range []struct {
		name string
		l    []formula.F
		apps []smt.App
		want bool
	}{
		{"no sums", nil, []smt.App{call(1, 8), call(1, 9)}, false},
		{"other functions", equal(0, 1), []smt.App{call(1, 8, x(0)), call(2, 9, x(1))}, true},
		{"other counts", equal(0, 1), []smt.App{call(1, 8, x(0)), call(1, 9, x(1), x(1))}, true},
		{"none and one", nil, []smt.App{call(1, 8), call(1, 9, num(0))}, true},
		{"numbers", nil, []smt.App{call(1, 8, num(3)), call(1, 9, num(3))}, false},
		{"other numbers", nil, []smt.App{call(1, 8, num(3)), call(1, 9, num(4))}, true},
		{"two", equal(0, 2, 1, 3), []smt.App{call(1, 8, x(0), x(1)), call(1, 9, x(2), x(3))}, false},
		{"one of two", equal(0, 2), []smt.App{call(1, 8, x(0), x(1)), call(1, 9, x(2), x(3))}, true},
		{"another order", equal(0, 3, 1, 2), []smt.App{call(1, 8, x(0), x(1)), call(1, 9, x(2), x(3))}, true},
		{"three", equal(0, 3, 1, 4, 2, 5), []smt.App{call(-1, 8, x(0), x(1), x(2)), call(-1, 9, x(3), x(4), x(5))}, false},
		{"two of three", equal(0, 3, 1, 4), []smt.App{call(-1, 8, x(0), x(1), x(2)), call(-1, 9, x(3), x(4), x(5))}, true},
		{"sums", equal(0, 1), []smt.App{call(1, 8, sum(x(0), num(2))), call(1, 9, sum(x(1), num(2)))}, false},
		{"sums of each other", []formula.F{formula.EqF(x(0), sum(x(1), num(1)))}, []smt.App{call(1, 8, x(0)), call(1, 9, sum(x(1), num(1)))}, false},
		{"sums that meet", []formula.F{formula.EqF(sum(x(0), x(1)), num(4)), formula.EqF(x(0), x(1))}, []smt.App{call(1, 8, x(0)), call(1, 9, num(2))}, false},
		{"between", []formula.F{formula.LtF(num(2), x(0)), formula.LtF(x(0), num(4))}, []smt.App{call(1, 8, x(0)), call(1, 9, num(3))}, false},
		{"nearly between", []formula.F{formula.LtF(num(2), x(0)), formula.LtF(x(0), num(5))}, []smt.App{call(1, 8, x(0)), call(1, 9, num(3))}, true},
		{"either", []formula.F{formula.Any(formula.EqF(x(0), num(1)), formula.EqF(x(0), num(2)))}, []smt.App{call(1, 8, x(0)), call(1, 9, num(1)), call(1, 9, num(2))}, false},
		{"either of the same", []formula.F{within(x(0), 1, 2), formula.EqF(x(1), x(9))}, []smt.App{call(1, 8, x(0)), call(1, 9, num(1)), call(1, 1, num(2))}, false},
		{"of each other", equal(0, 1), []smt.App{call(1, 2, x(0)), call(1, 3, x(1)), call(2, 8, x(2)), call(2, 9, x(3))}, false},
		{"itself", equal(8, 0), []smt.App{call(1, 8, x(8)), call(1, 9, x(0))}, false},
		{"twice", nil, []smt.App{call(1, 8, x(0)), call(1, 8, x(0)), call(1, 9, x(1))}, true},
	} {
		if got := asked(t, smt.New(), append(c.l, apart), c.apps); got != c.want {
			t.Errorf("%s: %v", c.name, got)
		}
		if !asked(t, smt.New(), c.l, c.apps) {
			t.Errorf("%s: it can't be at all", c.name)
		}
	}
}

// Variables, truths and functions are any numbers.
func TestAnyNumbers(t *testing.T) {
	s := smt.New()
	l := []int{math.MinInt, math.MinInt + 1, -2, -1, 0, 1, math.MaxInt - 1, math.MaxInt}
	for i, v := range l {
		w := l[(i+3)%len(l)]
		u := l[(i+5)%len(l)]
		less := []formula.F{formula.LtF(x(v), x(w)), formula.Truth(v), formula.Neg(formula.Truth(w))}
		if !asked(t, s, less, nil) || asked(t, s, append(less, formula.LtF(x(w), x(v))), nil) || asked(t, s, append(less, formula.Truth(w)), nil) {
			t.Errorf("of %d and %d", v, w)
		}
		apps := []smt.App{call(u, u, x(v)), call(u, w, x(u))}
		if asked(t, s, []formula.F{formula.EqF(x(v), x(u)), differ(x(u), x(w))}, apps) {
			t.Errorf("the function %d", u)
		}
	}
}

func TestGreatNumbers(t *testing.T) {
	n, _ := big.Parse("1234567890123456789012345678901234567890")
	m := big.Add(n, big.Of(1))
	two := linear.Scale(x(0), n)
	expect(t, true, []formula.F{formula.EqF(sum(two, linear.Scale(x(1), m)), num(1))})
	expect(t, false, []formula.F{formula.EqF(sum(two, linear.Scale(x(1), n)), num(1))})
	expect(t, false, []formula.F{formula.LtF(linear.Of(n), x(0)), formula.LtF(x(0), linear.Of(m))})
	expect(t, true, []formula.F{formula.LeF(linear.Of(n), x(0)), formula.LtF(x(0), linear.Of(m))})
	apps := []smt.App{call(1, 1, linear.Scale(x(0), n)), call(1, 2, linear.Of(big.Mul(n, n)))}
	expect(t, false, []formula.F{formula.EqF(x(0), linear.Of(n)), differ(x(1), x(2))}, apps...)
	expect(t, true, []formula.F{formula.EqF(x(0), linear.Of(m)), differ(x(1), x(2))}, apps...)
}
