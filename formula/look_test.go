package formula_test

import (
	"math"
	"slices"
	"testing"

	"whetstone/api"
	"whetstone/formula"
	"whetstone/linear"
)

// The tests of this file are of P14.1: the calls that put something in a place,
// and those that look at a formula.

func TestSubst(t *testing.T) {
	for _, m := range []maker{newMaker(31), newGreatMaker(32)} {
		each(m, 5000, func(f form) {
			v, by := m.variable(), m.term()
			want := treeOf(f).changed(func(a tree) tree {
				if n := a.sum.times[v]; n != nil {
					scaled := number(0)
					scaled.number.Mul(n, sumOf(by).number)
					for x, k := range sumOf(by).times {
						scaled.more(x, k.Mul(k, n))
					}
					a.sum = a.sum.plus(0, a.sum)
					delete(a.sum.times, v)
					a.sum = a.sum.plus(1, scaled)
				}
				return a
			})
			got := formula.Subst(f, v, by)
			is(t, "Subst of "+treeOf(f).text(), got, want)
			if !oneForms(got) {
				t.Fatalf("Subst of %s: a sum isn't in its one form: %v", treeOf(f).text(), got)
			}
		})
	}
}

func TestSubstBool(t *testing.T) {
	for _, m := range []maker{newMaker(33), newGreatMaker(34)} {
		each(m, 5000, func(f form) {
			v, by := m.variable(), formula.Simple(m.formula(3))
			want := treeOf(f).changed(func(a tree) tree {
				if a.kind == formula.Bool && a.truth == v {
					return treeOf(by)
				}
				return a
			})
			is(t, "SubstBool of "+treeOf(f).text(), formula.SubstBool(f, v, by), want)
		})
	}
}

// Truths aren't variables of numbers, what is put in isn't looked at once more,
// and nothing is made simpler.
func TestSubstWrittenOut(t *testing.T) {
	f := of(formula.And, b(0), le(1, 2, 4), of(formula.Not, of(formula.Or, b(0), b(1), formula.Yes())), le(0))
	cases := []struct {
		got  form
		want string
	}{
		{formula.Subst(f, 0, line(3, 1)), "[ b0 & (2*x0+4*x1+7 <= 0) & ![ b0 | b1 | true ] & (0 <= 0) ]"},
		{formula.Subst(f, 0, line(3)), "[ b0 & (4*x1+7 <= 0) & ![ b0 | b1 | true ] & (0 <= 0) ]"},
		{formula.Subst(f, 1, line(3, 0, -1)), "[ b0 & (2*x0-4*x1+13 <= 0) & ![ b0 | b1 | true ] & (0 <= 0) ]"},
		{formula.Subst(f, 0, line(0, 0, -2)), "[ b0 & (1 <= 0) & ![ b0 | b1 | true ] & (0 <= 0) ]"},
		{formula.Subst(f, 7, line(3)), "[ b0 & (2*x0+4*x1+1 <= 0) & ![ b0 | b1 | true ] & (0 <= 0) ]"},
		{formula.SubstBool(f, 0, of(formula.Not, b(0))), "[ !b0 & (2*x0+4*x1+1 <= 0) & ![ !b0 | b1 | true ] & (0 <= 0) ]"},
		{formula.SubstBool(f, 1, of(formula.And, b(0), b(1))), "[ b0 & (2*x0+4*x1+1 <= 0) & ![ b0 | [ b0 & b1 ] | true ] & (0 <= 0) ]"},
		{formula.SubstBool(f, 0, form{}), "[ false & (2*x0+4*x1+1 <= 0) & ![ false | b1 | true ] & (0 <= 0) ]"},
		{formula.SubstBool(f, 7, form{}), "[ b0 & (2*x0+4*x1+1 <= 0) & ![ b0 | b1 | true ] & (0 <= 0) ]"},
		{formula.SubstBool(b(-4), -4, le(1)), "(1 <= 0)"},
		{formula.SubstBool(of(formula.Not), 0, b(5)), "!false"},
		{formula.Subst(form{Kind: 8, Args: []form{b(1)}}, 0, line(3)), "false"},
	}
	for _, c := range cases {
		if got := formula.Text(c.got); got != c.want {
			t.Errorf("%s, not %s", got, c.want)
		}
	}
}

func TestVars(t *testing.T) {
	for _, m := range []maker{newMaker(35), newGreatMaker(36)} {
		each(m, 5000, func(f form) {
			var nums, truths []int
			for _, a := range treeOf(f).all() {
				switch a.kind {
				case formula.Bool:
					truths = append(truths, a.truth)
				case formula.Le:
					nums = append(nums, a.sum.vars()...)
				}
			}
			slices.Sort(nums)
			slices.Sort(truths)
			gotNums, gotTruths := formula.Vars(f)
			if !slices.Equal(gotNums, slices.Compact(nums)) || !slices.Equal(gotTruths, slices.Compact(truths)) {
				t.Fatalf("Vars of %s: %v, %v", treeOf(f).text(), gotNums, gotTruths)
			}
		})
	}
	f := of(formula.Or, b(3), b(-1), form{Kind: formula.Le, T: term{Parts: []part{times(9, odd(1)), times(-2, odd(1)), times(5, odd(0))}}}, b(3), le(1, 1))
	if nums, truths := formula.Vars(f); !slices.Equal(nums, []int{-2, 0, 9}) || !slices.Equal(truths, []int{-1, 3}) {
		t.Error("Vars", nums, truths)
	}
}

func TestAtoms(t *testing.T) {
	for _, m := range []maker{newMaker(37), newGreatMaker(38)} {
		each(m, 5000, func(f form) {
			var want, got []string
			for _, a := range treeOf(f).all() {
				if a.kind == formula.Le && !slices.Contains(want, a.sum.text()) {
					want = append(want, a.sum.text())
				}
			}
			for _, s := range formula.Atoms(f) {
				got = append(got, linear.Text(s))
			}
			if !slices.Equal(got, want) {
				t.Fatalf("Atoms of %s: %v, not %v", treeOf(f).text(), got, want)
			}
		})
	}
	same := form{Kind: formula.Le, T: term{Const: odd(1), Parts: []part{times(1, odd(3)), times(0, odd(2)), times(1, odd(-3))}}}
	l := formula.Atoms(of(formula.And, le(5), of(formula.Not, of(formula.Or, le(1, 2), le(2, 4))), same, le(5), b(0), le(0)))
	if len(l) != 4 || !equalTerm(l[0], line(5)) || !equalTerm(l[1], line(1, 2)) || !equalTerm(l[2], line(2, 4)) || !equalTerm(l[3], term{}) {
		t.Error("Atoms", l)
	}
}

func TestSize(t *testing.T) {
	each(newMaker(39), 5000, func(f form) {
		if got, want := formula.Size(f), len(treeOf(f).all()); got != want {
			t.Fatalf("Size of %s is %d, not %d", treeOf(f).text(), got, want)
		}
	})
	for _, f := range []form{{}, formula.Yes(), b(1), le(1, 2), of(formula.And), of(formula.Or), {Kind: 9, Args: []form{{}}}} {
		if formula.Size(f) != 1 {
			t.Errorf("Size of %v is %d", f, formula.Size(f))
		}
	}
	if n := formula.Size(formula.Iff(b(0), of(formula.Or, b(1), le(1)))); n != 13 {
		t.Error("Size of Iff", n)
	}
}

func (a tree) deep() int {
	n := 0
	for _, p := range a.parts {
		n = max(n, p.deep())
	}
	return n + 1
}

func TestDeep(t *testing.T) {
	each(newMaker(40), 5000, func(f form) {
		if got, e := formula.Deep(f); got != treeOf(f).deep() || e != api.OK {
			t.Fatalf("Deep of %s is %d, %v", treeOf(f).text(), got, e)
		}
	})
}

// nested are so many in one another, by each kind and at each place.
func nested(n int) []form {
	l := []form{b(0), le(1, 2), {}, of(formula.And), of(formula.Or), b(0), b(0), b(0), b(0)}
	for i := 1; i < n; i++ {
		l[0] = of(formula.Not, l[0])
		l[1] = of(formula.And, l[1])
		l[2] = of(formula.Or, l[2])
		l[3] = of(formula.And, b(1), l[3])
		l[4] = of(formula.Or, l[4], b(1))
		l[5] = of(formula.And+i%2, b(2), l[5], le(0, 3))
		l[6] = of(formula.Not+i%3, l[6])
		l[7] = of(formula.Not, l[7], b(1))
		l[8] = of(formula.And, of(formula.Or), le(1), l[8])
	}
	return l
}

func TestAsDeepAsMayBe(t *testing.T) {
	for _, n := range []int{1, 2, 3, 4, 100, 598, 599, 600, 601, 602, 603, 1000, 1201, 5000} {
		for i, f := range nested(n) {
			want, wantE := n, api.OK
			if n > 600 {
				want, wantE = 0, api.ErrDeep
			}
			if got, e := formula.Deep(f); got != want || e != wantE {
				t.Errorf("Deep of %d in one another, kind %d, is %d, %v", n, i, got, e)
			}
		}
	}
}

// A part that isn't named isn't counted.
func TestDeepOfWhatIsNothing(t *testing.T) {
	long := nested(700)[0]
	for _, f := range []form{
		{Kind: formula.True, Args: []form{long}}, {Kind: formula.Bool, Args: []form{long}}, {Kind: 7, Args: []form{long}},
		{Kind: formula.Le, Args: []form{long}}, {Kind: formula.False, Args: []form{long, long}},
	} {
		if n, e := formula.Deep(f); n != 1 || e != api.OK {
			t.Errorf("Deep of the kind %d is %d, %v", f.Kind, n, e)
		}
	}
	if n, e := formula.Deep(of(formula.Not, b(1), long)); n != 2 || e != api.OK {
		t.Error("Deep of Not and something behind its part", n, e)
	}
}

func TestText(t *testing.T) {
	for _, m := range []maker{newMaker(41), newGreatMaker(42)} {
		each(m, 5000, func(f form) {
			if got, want := formula.Text(f), treeOf(f).text(); got != want {
				t.Fatalf("Text is %s, not %s", got, want)
			}
		})
	}
}

func TestTextWrittenOut(t *testing.T) {
	const and, or, neg = formula.And, formula.Or, formula.Not
	cases := []struct {
		f    form
		want string
	}{
		{form{}, "false"}, {formula.Yes(), "true"}, {b(0), "b0"}, {b(-12), "b-12"}, {b(math.MaxInt), "b9223372036854775807"},
		{le(0), "(0 <= 0)"}, {le(1, -1, 2), "(-1*x0+2*x1+1 <= 0)"}, {form{Kind: 7, Var: 3}, "false"}, {form{Kind: -7}, "false"},
		{of(neg), "!false"}, {of(neg, of(neg, b(1)), b(2)), "!!b1"}, {of(neg, le(0, 1)), "!(1*x0 <= 0)"},
		{of(and, b(1)), "[ b1 ]"}, {of(or, b(1)), "[ b1 ]"}, {of(and, b(1), b(2)), "[ b1 & b2 ]"}, {of(or, b(1), b(2), b(3)), "[ b1 | b2 | b3 ]"},
		{of(neg, of(and, of(or, b(1), le(1)), of(neg, form{}))), "![ [ b1 | (1 <= 0) ] & !false ]"},
	}
	for _, c := range cases {
		if got := formula.Text(c.f); got != c.want {
			t.Errorf("%s, not %s", got, c.want)
		}
	}
}
