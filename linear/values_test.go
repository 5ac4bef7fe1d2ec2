package linear_test

import (
	"testing"

	"whetstone/big"
	"whetstone/linear"
)

// The tests of this file are of P11.2: values go through all calls, and texts and
// sums are one to one.

func sameNumber(a, b big.Int) bool { return big.Cmp(a, b) == 0 }

func TestValuesGoThrough(t *testing.T) {
	m := newMaker(4)
	pairs(func(a, b term) {
		l, n := m.bindings(), m.number()
		x, y := linear.Eval(a, l), linear.Eval(b, l)
		if !sameNumber(linear.Eval(linear.Norm(a), l), x) {
			t.Fatalf("Norm of %v has another value", a)
		}
		if !sameNumber(linear.Eval(linear.Add(a, b), l), big.Add(x, y)) {
			t.Fatalf("the value of the sum of %v, %v", a, b)
		}
		if !sameNumber(linear.Eval(linear.Sub(a, b), l), big.Sub(x, y)) {
			t.Fatalf("the value of the difference of %v, %v", a, b)
		}
		if !sameNumber(linear.Eval(linear.Scale(a, n), l), big.Mul(x, n)) {
			t.Fatalf("the value of %v, %v times", a, n)
		}
		if !sameNumber(linear.Eval(linear.Of(n), l), n) {
			t.Fatalf("the value of %v", n)
		}
	})
}

// A variable that a sum stands for has that sum's value: also if it is in the sum
// itself, which then means the variable of old.
func TestValuesGoThroughSubst(t *testing.T) {
	m := newMaker(5)
	pairs(func(a, by term) {
		l, v := m.bindings(), m.variable()
		within := append([]binding{{Var: v, N: linear.Eval(by, l)}}, l...)
		if !sameNumber(linear.Eval(linear.Subst(a, v, by), l), linear.Eval(a, within)) {
			t.Fatalf("the value of %v, %v being in the place of %d", a, by, v)
		}
		zero := append([]binding{{Var: v}}, l...)
		if !sameNumber(linear.Eval(linear.Without(a, v), l), linear.Eval(a, zero)) {
			t.Fatalf("the value of %v without %d", a, v)
		}
		times := big.Sub(linear.Eval(a, append([]binding{{Var: v, N: big.Of(1)}}, l...)), linear.Eval(a, zero))
		if !sameNumber(linear.Coef(a, v), times) {
			t.Fatalf("how many times %d is in %v", v, a)
		}
	})
}

func TestSumsAreEqualJustIfTheirTextsAre(t *testing.T) {
	equal := 0
	pairs(func(a, b term) {
		for _, c := range []term{b, linear.Norm(a), linear.Sub(linear.Add(a, b), b), linear.Scale(a, big.Of(-1))} {
			same := linear.Text(a) == linear.Text(c)
			if linear.Equal(a, c) != same || linear.Equal(c, a) != same {
				t.Fatalf("%v, %v: %q, %q", a, c, linear.Text(a), linear.Text(c))
			}
			if same {
				equal++
			}
		}
	})
	if equal < 5000 {
		t.Error("sums that are equal:", equal)
	}
}

// Sums are the same in whatever order they are taken, and undone.
func TestOrderSaysNothing(t *testing.T) {
	m := newMaker(6)
	pairs(func(a, b term) {
		c, n := m.term(), m.number()
		if !linear.Equal(linear.Add(a, b), linear.Add(b, a)) || !linear.Equal(linear.Add(linear.Add(a, b), c), linear.Add(a, linear.Add(b, c))) {
			t.Fatalf("the sum of %v, %v, %v hangs on the order", a, b, c)
		}
		if !linear.Equal(linear.Sub(linear.Add(a, b), b), a) {
			t.Fatalf("%v, and less %v", a, b)
		}
		if !linear.Equal(linear.Scale(linear.Add(a, b), n), linear.Add(linear.Scale(a, n), linear.Scale(b, n))) {
			t.Fatalf("the sum of %v, %v, %v times", a, b, n)
		}
	})
}

// A Content divides all, and leaves nothing to divide by.
func TestContentDividesAll(t *testing.T) {
	pairs(func(a, _ term) {
		content := linear.Content(a)
		rest := linear.Term{}
		for v, n := range linear.Vars(a) {
			if !big.Divides(content, n) {
				t.Fatalf("%v doesn't divide %v", content, n)
			}
			q, _, _ := big.DivMod(n, content)
			rest = linear.Add(rest, linear.Scale(linear.Var(v), q))
		}
		if !linear.IsConst(a) && !sameNumber(linear.Content(rest), big.Of(1)) {
			t.Fatalf("the Content of %v isn't the greatest", a)
		}
	})
}
