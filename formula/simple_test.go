package formula_test

import (
	mathbig "math/big"
	"slices"
	"testing"

	"whetstone/formula"
)

// The tests of this file are of P14.1: Simple and Nnf answer as the table says.

// divided is a sum divided by the greatest number that divides all its times, the
// number rounded up.
func divided(s sum) sum {
	content := new(mathbig.Int)
	for _, n := range s.times {
		content.GCD(nil, nil, content, new(mathbig.Int).Abs(n))
	}
	out := number(0)
	for v, n := range s.times {
		out.times[v] = new(mathbig.Int).Quo(n, content)
	}
	// Div rounds down by a divisor above 0: turned round twice it is up.
	out.number.Neg(s.number)
	out.number.Div(out.number, content)
	out.number.Neg(out.number)
	return out
}

// simple is Simple by the chapter's words.
func simple(a tree) tree {
	switch a.kind {
	case formula.Le:
		if len(a.sum.times) == 0 {
			return isTrue(a.sum.number.Sign() <= 0)
		}
		return below(divided(a.sum))
	case formula.Not:
		return simpleNot(simple(a.parts[0]))
	case formula.And, formula.Or:
		return simpleRow(a)
	}
	return a
}

func simpleNot(a tree) tree {
	switch a.kind {
	case formula.True, formula.False:
		return isTrue(a.kind == formula.False)
	case formula.Not:
		return a.parts[0]
	case formula.Le:
		return simple(below(number(1).plus(-1, a.sum)))
	}
	return not(a)
}

func simpleRow(a tree) tree {
	nothing, all := formula.True, formula.False
	if a.kind == formula.Or {
		nothing, all = all, nothing
	}
	var l []tree
	for _, p := range a.parts {
		switch s := simple(p); s.kind {
		case all:
			return tree{kind: all}
		case nothing:
		case a.kind:
			l = append(l, s.parts...)
		default:
			l = append(l, s)
		}
	}
	switch len(l) {
	case 0:
		return tree{kind: nothing}
	case 1:
		return l[0]
	}
	return tree{kind: a.kind, parts: l}
}

// isSimple: is there nothing left to make simpler?
func isSimple(a tree, top bool) bool {
	ok := true
	switch a.kind {
	case formula.False, formula.True:
		ok = top
	case formula.Le:
		ok = len(a.sum.times) > 0 && divided(a.sum).text() == a.sum.text()
	case formula.Not:
		ok = !slices.Contains([]int{formula.Not, formula.Le}, a.parts[0].kind)
	case formula.And, formula.Or:
		ok = len(a.parts) > 1 && !slices.ContainsFunc(a.parts, func(p tree) bool { return p.kind == a.kind })
	}
	return ok && !slices.ContainsFunc(a.parts, func(p tree) bool { return !isSimple(p, false) })
}

// oneForms: are all sums in their one form?
func oneForms(f form) bool {
	return (f.Kind != formula.Le || isOneForm(f.T)) && !slices.ContainsFunc(f.Args, func(a form) bool { return !oneForms(a) })
}

func TestSimple(t *testing.T) {
	for _, m := range []maker{newMaker(21), newGreatMaker(22)} {
		each(m, 10000, func(f form) {
			got := formula.Simple(f)
			is(t, "Simple of "+treeOf(f).text(), got, simple(treeOf(f)))
			if !isSimple(treeOf(got), true) || !oneForms(got) {
				t.Fatalf("Simple of %s isn't simple: %v", treeOf(f).text(), got)
			}
			if again := formula.Simple(got); !equal(again, got) {
				t.Fatalf("Simple of %s is made simpler once more: %v", treeOf(f).text(), again)
			}
		})
	}
}

func TestSimpleWrittenOut(t *testing.T) {
	const and, or, neg = formula.And, formula.Or, formula.Not
	tru, fls := formula.Yes(), formula.No()
	cases := []struct {
		f    form
		want string
	}{
		{tru, "true"}, {fls, "false"}, {b(3), "b3"}, {form{Kind: 9}, "false"},
		{le(0), "true"}, {le(-1), "true"}, {le(1), "false"}, {le(1, 0, 0), "false"},
		{le(1, 2), "(1*x0+1 <= 0)"}, {le(-1, 2), "(1*x0 <= 0)"}, {le(0, 2), "(1*x0 <= 0)"}, {le(2, 2), "(1*x0+1 <= 0)"}, {le(3, 2), "(1*x0+2 <= 0)"}, {le(-3, 2), "(1*x0-1 <= 0)"},
		{le(1, -2), "(-1*x0+1 <= 0)"}, {le(-1, -2), "(-1*x0 <= 0)"}, {le(7, 6, -9), "(2*x0-3*x1+3 <= 0)"}, {le(-7, 6, -9), "(2*x0-3*x1-2 <= 0)"},
		{le(5, 2, 3), "(2*x0+3*x1+5 <= 0)"}, {le(5, 0, 5), "(1*x1+1 <= 0)"},
		{of(neg, tru), "false"}, {of(neg, fls), "true"}, {of(neg), "true"}, {of(neg, b(1)), "!b1"}, {of(neg, of(neg, b(1))), "b1"}, {of(neg, of(neg, of(neg, b(1)))), "!b1"},
		{of(neg, le(0)), "false"}, {of(neg, le(1)), "true"}, {of(neg, le(0, 1)), "(-1*x0+1 <= 0)"}, {of(neg, le(1, 2)), "(-1*x0 <= 0)"}, {of(neg, le(0, -3)), "(1*x0+1 <= 0)"},
		{of(neg, of(neg, le(1, 2))), "(1*x0+1 <= 0)"},
		{of(neg, of(and, b(1), b(2))), "![ b1 & b2 ]"}, {of(neg, of(or, b(1), b(2))), "![ b1 | b2 ]"}, {of(neg, of(and, b(1))), "!b1"}, {of(neg, of(and, of(neg, b(1)))), "b1"},
		{of(neg, of(and)), "false"}, {of(neg, of(or)), "true"},
		{of(and), "true"}, {of(or), "false"}, {of(and, b(1)), "b1"}, {of(or, b(1)), "b1"}, {of(and, tru), "true"}, {of(or, tru), "true"}, {of(and, fls), "false"}, {of(or, fls), "false"},
		{of(and, b(1), tru, b(2)), "[ b1 & b2 ]"}, {of(and, b(1), fls, b(2)), "false"}, {of(or, b(1), tru, b(2)), "true"}, {of(or, b(1), fls, b(2)), "[ b1 | b2 ]"},
		{of(and, tru, b(1)), "b1"}, {of(or, b(1), fls), "b1"},
		{of(and, b(1), of(and, b(2), b(3)), b(4)), "[ b1 & b2 & b3 & b4 ]"}, {of(or, b(1), of(or, b(2), b(3)), b(4)), "[ b1 | b2 | b3 | b4 ]"},
		{of(and, b(1), of(or, b(2), b(3)), b(4)), "[ b1 & [ b2 | b3 ] & b4 ]"}, {of(or, b(1), of(and, b(2), b(3))), "[ b1 | [ b2 & b3 ] ]"},
		{of(and, b(1), of(or, of(and, b(2), b(3)))), "[ b1 & b2 & b3 ]"}, {of(and, b(1), of(or, fls, of(and, b(2), b(3)))), "[ b1 & b2 & b3 ]"},
		{of(and, b(1), of(neg, of(neg, of(and, b(2), b(3))))), "[ b1 & b2 & b3 ]"}, {of(and, b(1), of(and, of(and), of(and, b(2)))), "[ b1 & b2 ]"},
		{of(and, b(1), of(and, b(2), of(or))), "false"}, {of(or, b(1), of(or, b(2), of(and))), "true"}, {of(or, b(1), of(and, b(2), fls)), "b1"},
		{of(and, b(1), b(1)), "[ b1 & b1 ]"}, {of(and, b(1), of(neg, b(1))), "[ b1 & !b1 ]"}, {of(or, le(0), b(1)), "true"}, {of(and, le(-4), le(2, 4)), "(1*x0+1 <= 0)"},
		{of(and, b(2), le(2, 4), b(1)), "[ b2 & (1*x0+1 <= 0) & b1 ]"},
	}
	for _, c := range cases {
		if got := formula.Text(formula.Simple(c.f)); got != c.want {
			t.Errorf("Simple of %s is %s, not %s", treeOf(c.f).text(), got, c.want)
		}
	}
}

// nnf is Nnf by the chapter's words.
func nnf(a tree) tree {
	if a.kind != formula.Not {
		return a.rebuilt(a.kind, nnf)
	}
	within := a.parts[0]
	switch within.kind {
	case formula.True, formula.False:
		return isTrue(within.kind == formula.False)
	case formula.Le:
		return below(number(1).plus(-1, within.sum))
	case formula.Not:
		return nnf(within.parts[0])
	case formula.And, formula.Or:
		kind := formula.And + formula.Or - within.kind
		return within.rebuilt(kind, func(p tree) tree { return nnf(not(p)) })
	}
	return a
}

func (a tree) rebuilt(kind int, part func(tree) tree) tree {
	out := tree{kind: kind, truth: a.truth, sum: a.sum}
	for _, p := range a.parts {
		out.parts = append(out.parts, part(p))
	}
	return out
}

func TestNnf(t *testing.T) {
	for _, m := range []maker{newMaker(23), newGreatMaker(24)} {
		each(m, 10000, func(f form) {
			got := formula.Nnf(f)
			is(t, "Nnf of "+treeOf(f).text(), got, nnf(treeOf(f)))
			for _, a := range treeOf(got).all() {
				if a.kind == formula.Not && a.parts[0].kind != formula.Bool {
					t.Fatalf("Nnf of %s has Not ahead of %s", treeOf(f).text(), a.parts[0].text())
				}
			}
			if again := formula.Nnf(got); !equal(again, got) {
				t.Fatalf("Nnf of %s, once more: %v", treeOf(f).text(), again)
			}
		})
	}
}

func TestNnfWrittenOut(t *testing.T) {
	const and, or, neg = formula.And, formula.Or, formula.Not
	tru, fls := formula.Yes(), formula.No()
	cases := []struct {
		f    form
		want string
	}{
		{tru, "true"}, {fls, "false"}, {b(3), "b3"}, {le(6, 4), "(4*x0+6 <= 0)"}, {le(5), "(5 <= 0)"}, {form{Kind: 9}, "false"},
		{of(neg, tru), "false"}, {of(neg, fls), "true"}, {of(neg), "true"}, {of(neg, form{Kind: 9}), "true"}, {of(neg, b(3)), "!b3"},
		{of(neg, le(0, 1)), "(-1*x0+1 <= 0)"}, {of(neg, le(6, 4)), "(-4*x0-5 <= 0)"}, {of(neg, le(5)), "(-4 <= 0)"},
		{of(neg, of(neg, b(3))), "b3"}, {of(neg, of(neg, of(neg, b(3)))), "!b3"}, {of(neg, of(neg, le(6, 4))), "(4*x0+6 <= 0)"},
		{of(neg, of(neg)), "false"},
		{of(and), "[  ]"}, {of(neg, of(and)), "[  ]"}, {of(or, b(1)), "[ b1 ]"}, {of(neg, of(and, b(1))), "[ !b1 ]"},
		{of(neg, of(and, b(1), of(neg, b(2)), tru)), "[ !b1 | b2 | false ]"}, {of(neg, of(or, b(1), of(and, b(2), fls))), "[ !b1 & [ !b2 | true ] ]"},
		{of(and, of(and, b(1)), of(neg, of(or, b(2), b(3)))), "[ [ b1 ] & [ !b2 & !b3 ] ]"},
	}
	for _, c := range cases {
		if got := formula.Text(formula.Nnf(c.f)); got != c.want {
			t.Errorf("Nnf of %s is %s, not %s", treeOf(c.f).text(), got, c.want)
		}
	}
	if f := formula.Nnf(of(neg, of(and))); f.Kind != or {
		t.Error("Not of And without Args", f)
	}
	if f := formula.Nnf(of(neg, of(or))); f.Kind != and {
		t.Error("Not of Or without Args", f)
	}
}
