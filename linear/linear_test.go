package linear_test

import (
	"fmt"
	mathbig "math/big"
	"slices"
	"strings"
	"testing"

	"whetstone/big"
	"whetstone/linear"
)

// The tests of this file are of P11.1: all calls answer as the table says, in
// the one form, whatever is handed in.

func TestNorm(t *testing.T) {
	pairs(func(a, _ term) { check(t, "Norm", linear.Norm(a), meaning(a)) })
}

func TestOfAndVar(t *testing.T) {
	m := newMaker(2)
	for _, n := range []big.Int{{}, odd(0), odd(5), odd(-5), big.Of(3), m.number(), m.number()} {
		check(t, "Of", linear.Of(n), meaning(term{Const: n}))
		if len(linear.Of(n).Parts) > 0 {
			t.Error("Of has parts")
		}
	}
	for _, v := range someVars() {
		check(t, "Var", linear.Var(v), meaning(term{Parts: []part{{Var: v, Coef: big.Of(1)}}}))
	}
}

func TestAddSubScale(t *testing.T) {
	one, less := mathbig.NewInt(1), mathbig.NewInt(-1)
	pairs(func(a, b term) {
		check(t, "Add", linear.Add(a, b), meaning(a).plus(one, meaning(b)))
		check(t, "Sub", linear.Sub(a, b), meaning(a).plus(less, meaning(b)))
		for _, n := range []big.Int{b.Const, odd(0), odd(-3), big.Of(1), big.Of(-1)} {
			check(t, "Scale", linear.Scale(a, n), meaning(term{}).plus(value(n), meaning(a)))
		}
	})
}

func TestCoefAndWithout(t *testing.T) {
	pairs(func(a, _ term) {
		for _, v := range someVars() {
			checkNumber(t, "Coef", linear.Coef(a, v), meaning(a).coef(v))
			want := meaning(a)
			delete(want.times, v)
			check(t, "Without", linear.Without(a, v), want)
		}
	})
}

func TestSubst(t *testing.T) {
	pairs(func(a, b term) {
		for _, v := range someVars() {
			rest := meaning(a)
			delete(rest.times, v)
			check(t, "Subst", linear.Subst(a, v, b), rest.plus(meaning(a).coef(v), meaning(b)))
		}
	})
}

func TestVars(t *testing.T) {
	pairs(func(a, _ term) {
		var vars []int
		for v, n := range linear.Vars(a) {
			vars = append(vars, v)
			checkNumber(t, "a Coef of Vars", n, meaning(a).coef(v))
		}
		if !slices.Equal(vars, meaning(a).vars()) {
			t.Fatalf("Vars of %v goes through %v", a, vars)
		}
	})
}

func TestIsConst(t *testing.T) {
	pairs(func(a, _ term) {
		if got, want := linear.IsConst(a), len(meaning(a).times) == 0; got != want {
			t.Fatalf("IsConst of %v = %v", a, got)
		}
	})
	for _, a := range []term{{}, {Parts: []part{}}, {Const: big.Of(4)}, {Parts: []part{{Var: 1, Coef: odd(0)}}}, {Parts: []part{{Var: 1, Coef: big.Of(2)}, {Var: 1, Coef: odd(-2)}}}} {
		if !linear.IsConst(a) {
			t.Errorf("%v hangs on a variable", a)
		}
		checkNumber(t, "Content without a variable", linear.Content(a), new(mathbig.Int))
	}
}

// evaluated is a sum's value by the chapter's words.
func evaluated(a term, l []binding) *mathbig.Int {
	out := value(a.Const)
	for v, n := range meaning(a).times {
		for _, b := range l {
			if b.Var == v {
				out.Add(out, new(mathbig.Int).Mul(n, value(b.N)))
				break
			}
		}
	}
	return out
}

func TestEval(t *testing.T) {
	m := newMaker(3)
	pairs(func(a, _ term) {
		l := m.bindings()
		checkNumber(t, "Eval", linear.Eval(a, l), evaluated(a, l))
		checkNumber(t, "Eval without bindings", linear.Eval(a, nil), value(a.Const))
	})
}

// The first binding of a variable holds; without one it is 0.
func TestEvalTakesTheFirstBinding(t *testing.T) {
	a := linear.Add(linear.Scale(linear.Var(1), big.Of(10)), linear.Add(linear.Var(2), linear.Of(big.Of(100))))
	cases := []struct {
		l    []binding
		want int64
	}{
		{nil, 100},
		{[]binding{{1, big.Of(2)}}, 120},
		{[]binding{{1, big.Of(2)}, {1, big.Of(3)}}, 120},
		{[]binding{{1, big.Of(0)}, {1, big.Of(3)}}, 100},
		{[]binding{{7, big.Of(9)}, {2, odd(-4)}, {1, odd(2)}, {2, big.Of(5)}, {1, big.Of(6)}}, 116},
	}
	for _, c := range cases {
		checkNumber(t, fmt.Sprint("Eval by ", c.l), linear.Eval(a, c.l), mathbig.NewInt(c.want))
	}
}

func TestEqual(t *testing.T) {
	pairs(func(a, b term) {
		if got := linear.Equal(a, b); got != meaning(a).equal(meaning(b)) {
			t.Fatalf("Equal of %v, %v = %v", a, b, got)
		}
		if !linear.Equal(a, linear.Norm(a)) || linear.Equal(a, linear.Add(a, linear.Of(big.Of(1)))) || linear.Equal(linear.Add(linear.Var(3), a), a) {
			t.Fatalf("Equal of %v and what is near", a)
		}
	})
}

func TestContent(t *testing.T) {
	pairs(func(a, _ term) {
		want := new(mathbig.Int)
		for _, n := range meaning(a).times {
			want.GCD(nil, nil, want, new(mathbig.Int).Abs(n))
		}
		checkNumber(t, "Content", linear.Content(a), want)
	})
}

// written is a sum's text by the chapter's words.
func written(a term) string {
	m, out := meaning(a), ""
	add := func(n *mathbig.Int, behind string) {
		s := n.String()
		if out != "" && !strings.HasPrefix(s, "-") {
			s = "+" + s
		}
		out += s + behind
	}
	for _, v := range m.vars() {
		add(m.times[v], fmt.Sprintf("*x%d", v))
	}
	if out == "" || m.number.Sign() != 0 {
		add(m.number, "")
	}
	return out
}

func TestText(t *testing.T) {
	pairs(func(a, _ term) {
		if got, want := linear.Text(a), written(a); got != want {
			t.Fatalf("Text of %v is %q, not %q", a, got, want)
		}
	})
}

func TestTextWrittenOut(t *testing.T) {
	for want, a := range map[string]term{
		"0":                 {Const: odd(0)},
		"5":                 {Const: odd(5)},
		"-5":                {Const: big.Of(-5), Parts: []part{{Var: 8}}},
		"1*x0":              {Parts: []part{{0, big.Of(1)}}},
		"-1*x0":             {Const: odd(0), Parts: []part{{0, odd(-1)}}},
		"-1*x2+4":           {Const: big.Of(4), Parts: []part{{2, big.Of(-1)}}},
		"3*x2-4":            {Const: big.Of(-4), Parts: []part{{2, big.Of(3)}}},
		"2*x1-1*x3+7":       {Const: big.Of(7), Parts: []part{{3, big.Of(-1)}, {1, big.Of(2)}}},
		"-2*x1+1*x3-7":      {Const: big.Of(-7), Parts: []part{{3, big.Of(1)}, {1, big.Of(-2)}}},
		"1*x1+1*x2+1*x10":   {Parts: []part{{10, big.Of(1)}, {2, big.Of(1)}, {1, big.Of(1)}}},
		"4*x-12-5*x-1+6*x0": {Parts: []part{{-1, big.Of(-5)}, {0, big.Of(6)}, {-12, big.Of(4)}}},
	} {
		if got := linear.Text(a); got != want {
			t.Errorf("Text of %v is %q, not %q", a, got, want)
		}
	}
}

// One forms are the same to the last: of no part there is no list.
func TestNoPartsNoList(t *testing.T) {
	gone := term{Const: big.Of(2), Parts: []part{{Var: 1, Coef: big.Of(3)}, {Var: 1, Coef: big.Of(-3)}}}
	for _, a := range []term{
		linear.Norm(gone), linear.Add(gone, gone), linear.Sub(linear.Var(1), linear.Var(1)), linear.Scale(gone, big.Of(2)),
		linear.Scale(linear.Var(1), odd(0)), linear.Without(linear.Var(1), 1), linear.Subst(linear.Var(1), 1, gone), linear.Of(odd(3)),
		linear.Norm(term{Parts: []part{}}),
	} {
		if a.Parts != nil {
			t.Errorf("%v has a list of no parts", a)
		}
	}
}

// The chapter's examples.
func TestExamples(t *testing.T) {
	a := linear.Norm(term{Const: big.Of(5), Parts: []part{{3, big.Of(1)}, {1, big.Of(2)}, {3, big.Of(-1)}}})
	if got := linear.Text(a); got != "2*x1+5" {
		t.Error("Norm", got)
	}
	by := linear.Sub(linear.Var(2), linear.Of(big.Of(1)))
	if got := linear.Text(linear.Subst(a, 1, by)); got != "2*x2+3" {
		t.Error("Subst", got)
	}
}
