package formula_test

import (
	"math"
	"testing"

	"whetstone/formula"
	"whetstone/linear"
)

// The tests of this file are of P14.1: the calls that make formulas.

func someVars() []int { return []int{math.MinInt, -1, 0, 1, 7, math.MaxInt} }

func TestYesNoTruth(t *testing.T) {
	is(t, "Yes", formula.Yes(), yes())
	is(t, "No", formula.No(), no())
	for _, v := range someVars() {
		is(t, "Truth", formula.Truth(v), tree{kind: formula.Bool, truth: v})
	}
}

// sumIs wants a Le of a sum, in its one form.
func sumIs(t *testing.T, what string, got form, want sum) {
	t.Helper()
	is(t, what, got, below(want))
	if got.Kind != formula.Le || !isOneForm(got.T) {
		t.Fatalf("%s isn't a sum in its one form: %v", what, got)
	}
}

func TestSums(t *testing.T) {
	for _, m := range []maker{newMaker(1), newGreatMaker(2)} {
		for range 1000 {
			x, y := m.term(), m.term()
			difference := sumOf(x).plus(-1, sumOf(y))
			back := sumOf(y).plus(-1, sumOf(x))
			sumIs(t, "Below", formula.Below(x), sumOf(x))
			sumIs(t, "LeF", formula.LeF(x, y), difference)
			sumIs(t, "LtF", formula.LtF(x, y), difference.plus(1, number(1)))
			is(t, "EqF", formula.EqF(x, y), tree{kind: formula.And, parts: []tree{below(difference), below(back)}})
			for i, f := range formula.EqF(x, y).Args {
				sumIs(t, "EqF", f, []sum{difference, back}[i])
			}
		}
	}
}

// A sum without a variable stays one, and nothing is divided: nothing is made
// simpler.
func TestSumsStayAsTheyAre(t *testing.T) {
	texts := []struct {
		f    form
		want string
	}{
		{formula.Below(term{Const: odd(0), Parts: []part{times(3, odd(0))}}), "(0 <= 0)"},
		{formula.Below(linear.Of(odd(5))), "(5 <= 0)"},
		{formula.Below(line(6, 4)), "(4*x0+6 <= 0)"},
		{formula.LeF(line(1, 1), line(1, 1)), "(0 <= 0)"},
		{formula.LtF(line(1, 1), line(1, 1)), "(1 <= 0)"},
		{formula.LtF(line(0, 2), line(0, 0, 2)), "(2*x0-2*x1+1 <= 0)"},
		{formula.EqF(line(1, 1), line(1, 1)), "[ (0 <= 0) & (0 <= 0) ]"},
		{formula.EqF(line(3, 1), line(2)), "[ (1*x0+1 <= 0) & (-1*x0-1 <= 0) ]"},
	}
	for _, x := range texts {
		if got := formula.Text(x.f); got != x.want {
			t.Errorf("%s, not %s", got, x.want)
		}
	}
}

// Not, And, Or, with what they are handed as it is.
func TestNegAllAny(t *testing.T) {
	m := newGreatMaker(3)
	for range 300 {
		l := m.list(3, m.Intn(6))
		if got := formula.All(l...); !equal(got, form{Kind: formula.And, Args: l}) {
			t.Fatalf("All of %v is %v", l, got)
		}
		if got := formula.Any(l...); !equal(got, form{Kind: formula.Or, Args: l}) {
			t.Fatalf("Any of %v is %v", l, got)
		}
	}
	each(m, 300, func(f form) {
		if got := formula.Neg(f); !equal(got, form{Kind: formula.Not, Args: []form{f}}) {
			t.Fatalf("Neg of %v is %v", f, got)
		}
	})
	if !equal(formula.All(), form{Kind: formula.And}) || !equal(formula.Any(), form{Kind: formula.Or}) {
		t.Error("All, Any of none")
	}
}

func TestIfIff(t *testing.T) {
	m := newGreatMaker(4)
	each(m, 300, func(f form) {
		g := m.formula(3)
		one := of(formula.Or, of(formula.Not, f), g)
		other := of(formula.Or, of(formula.Not, g), f)
		if got := formula.If(f, g); !equal(got, one) {
			t.Fatalf("If of %v, %v is %v", f, g, got)
		}
		if got := formula.Iff(f, g); !equal(got, of(formula.And, one, other)) {
			t.Fatalf("Iff of %v, %v is %v", f, g, got)
		}
	})
}

// What they mean, by all values of two truths.
func TestIfIffMean(t *testing.T) {
	for trues := range 4 {
		var v formula.Val
		first, second := trues&1 > 0, trues&2 > 0
		for i := range 2 {
			if trues>>i&1 > 0 {
				v.Trues = append(v.Trues, i)
			}
		}
		if formula.Eval(formula.If(b(0), b(1)), v) != (!first || second) || formula.Eval(formula.Iff(b(0), b(1)), v) != (first == second) {
			t.Error("If, Iff of", first, second)
		}
	}
}
