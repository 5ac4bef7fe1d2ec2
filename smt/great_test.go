package smt_test

import (
	"testing"

	"whetstone/formula"
	"whetstone/linear"
	"whetstone/smt"
)

// The tests of this file are of P16.1: great questions of which the answer is known,
// and of P1: that they end.

// Each is less than the next one, all the way round.
func TestRing(t *testing.T) {
	const n = 60
	var l []formula.F
	for i := range n {
		l = append(l, formula.LtF(x(i), x(i+1)))
	}
	expect(t, true, append(l, formula.LeF(sum(x(0), num(n)), x(n))))
	expect(t, true, append(l, formula.EqF(sum(x(0), num(n)), x(n))))
	expect(t, false, append(l, formula.LtF(x(n), sum(x(0), num(n)))))
}

// More things than holes; and as many.
func TestHoles(t *testing.T) {
	for _, c := range []struct {
		things, holes int
		want          bool
	}{{2, 1, false}, {3, 2, false}, {4, 3, false}, {5, 4, false}, {5, 5, true}, {12, 12, true}} {
		var l []formula.F
		for i := range c.things {
			l = append(l, within(x(i), 1, c.holes))
			for j := range i {
				l = append(l, differ(x(i), x(j)))
			}
		}
		expect(t, c.want, l)
	}
}

// Each number is the greater one of the one ahead and another: however many ways
// there are, the last is no less than the first.
func TestGreatest(t *testing.T) {
	for _, n := range []int{1, 2, 5, 20} {
		var l []formula.F
		for k := 1; k <= n; k++ {
			b, y := formula.Truth(k), x(100+k)
			l = append(l,
				formula.Iff(b, formula.LtF(x(k-1), y)),
				formula.If(b, formula.EqF(x(k), y)),
				formula.If(formula.Neg(b), formula.EqF(x(k), x(k-1))))
		}
		s := smt.New()
		if !follows(t, s, l, formula.LeF(x(0), x(n)), nil) || follows(t, s, l, formula.LtF(x(0), x(n)), nil) {
			t.Errorf("the greatest of %d", n)
		}
		if s.Clauses() > 20*n+20 {
			t.Errorf("of the greatest of %d there are %d clauses", n, s.Clauses())
		}
	}
}

// Each number is the one ahead, or so many more: the last is no more than if all were.
func TestSteps(t *testing.T) {
	for _, n := range []int{1, 2, 5, 25} {
		var l []formula.F
		for k := 1; k <= n; k++ {
			b := formula.Truth(k)
			l = append(l,
				formula.If(b, formula.EqF(x(k), sum(x(k-1), num(3)))),
				formula.If(formula.Neg(b), formula.EqF(x(k), x(k-1))))
		}
		s := smt.New()
		if !follows(t, s, l, formula.LeF(x(n), sum(x(0), num(3*n))), nil) || follows(t, s, l, formula.LtF(x(n), sum(x(0), num(3*n))), nil) {
			t.Errorf("%d steps", n)
		}
		if follows(t, s, l, differ(x(n), sum(x(0), num(3))), nil) {
			t.Errorf("%d steps can't be one alone", n)
		}
	}
}

// iterated are apps of a function, of what it answers, and so on: the variables are
// first, first + 1, ..
func iterated(fn, first, count int) []smt.App {
	var apps []smt.App
	for i := range count {
		apps = append(apps, call(fn, first+i+1, x(first+i)))
	}
	return apps
}

// What comes back behind 21 steps and behind 34, comes back behind each.
func TestIterated(t *testing.T) {
	apps := iterated(3, 0, 34)
	for _, c := range []struct {
		a, b int
		want bool
	}{{3, 5, true}, {21, 34, true}, {20, 34, false}, {34, 34, false}, {1, 30, true}} {
		hyps := []formula.F{formula.EqF(x(c.a), x(0)), formula.EqF(x(0), x(c.b))}
		if got := follows(t, smt.New(), hyps, formula.EqF(x(1), x(0)), apps); got != c.want {
			t.Errorf("f^%d and f^%d: %v", c.a, c.b, got)
		}
		// The same, said so that it is known by the search alone.
		b := formula.Truth(0)
		hyps = []formula.F{formula.If(b, hyps[0]), formula.Any(formula.Neg(b), hyps[1]), formula.Any(b, formula.Truth(1)), formula.Neg(formula.Truth(1))}
		if c.b > 10 {
			continue
		}
		if got := follows(t, smt.New(), hyps, formula.EqF(x(1), x(0)), apps[:c.b]); got != c.want {
			t.Errorf("f^%d and f^%d, if: %v", c.a, c.b, got)
		}
	}
}

// A function that answers differently is asked differently.
func TestDifferentAnswers(t *testing.T) {
	for _, n := range []int{2, 4, 10} {
		var l []formula.F
		var apps []smt.App
		for i := range n {
			apps = append(apps, call(1, 100+i, x(i), num(7)))
			for j := range i {
				l = append(l, differ(x(100+i), x(100+j)))
			}
		}
		expect(t, true, l, apps...)
		if n > 4 {
			continue
		}
		for i := range n {
			l = append(l, within(x(i), 1, n-1))
		}
		expect(t, false, l, apps...)
	}
}

// A function of numbers from 1 to n, each of which it answers; so it can't leave one out.
func TestTable(t *testing.T) {
	const n = 12
	var l []formula.F
	apps := []smt.App{call(1, 0, x(1))}
	for i := range n {
		apps = append(apps, call(1, 10+i, num(i)))
		l = append(l, formula.EqF(x(10+i), num(i*i)))
	}
	l = append(l, within(x(1), 0, n-1))
	expect(t, true, append(l, formula.EqF(x(0), num(49))), apps...)
	expect(t, false, append(l, formula.EqF(x(0), num(50))), apps...)
	if !follows(t, smt.New(), append(l, formula.LtF(num(50), x(0))), formula.LtF(num(7), x(1)), apps) {
		t.Error("of more than 50")
	}
}

// Sums of ifs: each part is one of two numbers.
func TestSums(t *testing.T) {
	const n = 8
	var l []formula.F
	total := linear.Term{}
	for i := range n {
		l = append(l, formula.Any(formula.EqF(x(i), num(1<<i)), formula.EqF(x(i), num(0))))
		total = linear.Add(total, x(i))
	}
	s := smt.New()
	for _, k := range []int{0, 1, 77, 170, 255} {
		if !asked(t, s, append(l, formula.EqF(total, num(k))), nil) {
			t.Errorf("%d isn't met", k)
		}
	}
	for _, k := range []int{-1, 256} {
		if asked(t, s, append(l, formula.EqF(total, num(k))), nil) {
			t.Errorf("%d is met", k)
		}
	}
	if !follows(t, s, append(l, formula.EqF(total, num(170))), formula.EqF(x(3), num(8)), nil) {
		t.Error("170 without 8")
	}
}

// Formulas in one another, as deep as they may be.
func TestDeep(t *testing.T) {
	const deep = 1 << 16
	b, c := formula.Truth(0), formula.LtF(num(0), x(0))
	not, all, any, mixed := b, b, b, c
	for i := range deep - 2 {
		not = formula.Neg(not)
		all = formula.All(all, b)
		any = formula.Any(c, any)
		if i%2 == 0 {
			mixed = formula.All(mixed, b)
		} else {
			mixed = formula.Any(formula.Neg(b), mixed)
		}
	}
	s := smt.New()
	for _, f := range []formula.F{not, all, any, mixed} {
		if !asked(t, s, []formula.F{f}, nil) || !asked(t, s, []formula.F{formula.Neg(f)}, nil) || asked(t, s, []formula.F{f, formula.Neg(f)}, nil) {
			t.Error("a deep formula")
		}
	}
	if !follows(t, s, []formula.F{not}, b, nil) || !follows(t, s, []formula.F{all}, b, nil) || !follows(t, s, []formula.F{any, formula.Neg(b)}, c, nil) || !follows(t, s, []formula.F{b, mixed}, c, nil) {
		t.Error("what follows from a deep formula")
	}
}

// A formula that stands at many places is looked at once: as trees these would have
// more parts than can be counted.
func TestShared(t *testing.T) {
	f, g, h := formula.LtF(num(0), x(0)), formula.Truth(0), formula.Truth(9)
	for i := range 100 {
		f = formula.Iff(f, formula.LtF(num(0), x(i%7)))
		g = formula.Iff(formula.Truth(0), formula.Neg(g))
		h = formula.All(h, formula.Any(h, h))
	}
	s := smt.New()
	if !asked(t, s, []formula.F{f}, nil) || !asked(t, s, []formula.F{formula.Neg(f)}, nil) || asked(t, s, []formula.F{f, formula.Neg(f)}, nil) {
		t.Error("a formula of numbers")
	}
	if !asked(t, s, []formula.F{g, h}, nil) || !follows(t, s, []formula.F{h}, formula.Truth(9), nil) || follows(t, s, []formula.F{formula.Neg(h)}, formula.Truth(9), nil) {
		t.Error("a formula of truths")
	}
	all := formula.Yes()
	for i := range 7 {
		all = formula.All(all, formula.LtF(num(0), x(i)))
	}
	if !follows(t, s, []formula.F{all}, f, nil) {
		t.Error("what is so of all numbers above 0")
	}
}

// Formulas that share a list, or the beginning of one, aren't the same for that.
func TestSharedLists(t *testing.T) {
	list := []formula.F{formula.LtF(num(0), x(0)), formula.Truth(0), formula.Truth(1), formula.LtF(x(0), num(9))}
	b := formula.Truth(7)
	for n := range len(list) + 1 {
		for m := range len(list) + 1 {
			for _, c := range []struct {
				from, to int
				want     bool
			}{
				{formula.And, formula.And, n >= m},
				{formula.Or, formula.Or, n <= m},
				{formula.And, formula.Or, n > 0 && m > 0 || m == len(list)},
				{formula.Or, formula.And, n == 0 || m == 0 || n == 1 && m == 1},
			} {
				hyp, goal := formula.F{Kind: c.from, Args: list[:n]}, formula.F{Kind: c.to, Args: list[:m]}
				if follows(t, smt.New(), []formula.F{hyp}, goal, nil) != c.want {
					t.Errorf("%v follows from %v: %v", formula.Text(goal), formula.Text(hyp), !c.want)
				}
				if follows(t, smt.New(), []formula.F{formula.Neg(b), formula.Any(b, hyp)}, formula.All(formula.Neg(b), goal), nil) != c.want {
					t.Errorf("%v, within, follows from %v: %v", formula.Text(goal), formula.Text(hyp), !c.want)
				}
			}
		}
	}
}

// One of very many, and all of very many.
func TestWide(t *testing.T) {
	const n = 3000
	var one, all []formula.F
	for i := range n {
		one = append(one, formula.EqF(x(0), num(3*i)))
		all = append(all, formula.LeF(num(i%50), x(i%20)), formula.LeF(x(i%20), num(1000+i)), formula.Any(formula.Truth(i), formula.Neg(formula.Truth(i+1))))
	}
	expect(t, true, []formula.F{formula.Any(one...), formula.LtF(num(3*n-5), x(0))})
	expect(t, false, []formula.F{formula.Any(one...), formula.LtF(num(3*n-3), x(0))})
	expect(t, true, all)
	expect(t, false, append(all, formula.LtF(x(3), num(43))))
	expect(t, false, append(all, formula.Truth(n), formula.Neg(formula.Truth(0))))
}
