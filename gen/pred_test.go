package gen_test

import (
	"fmt"
	"reflect"
	"testing"

	"whetstone/api"
	"whetstone/base"
	"whetstone/big"
	"whetstone/formula"
	"whetstone/gen"
	"whetstone/linear"
)

// TestPred: names stand for sums and formulas.
func TestPred(t *testing.T) {
	sum := linear.Sub(linear.Scale(linear.Var(4), big.Of(2)), num(1)) // 2*x4-1
	nums := []gen.Named{{Name: "a", T: linear.Var(0)}, {Name: "v", T: sum}}
	truths := []gen.NamedF{{Name: "p", F: formula.Truth(7)}, {Name: "q", F: formula.LeF(sum, num(0))}}
	for s, want := range map[string]string{
		"true":                        "yes",
		"false":                       "no",
		"p":                           "b7",
		"q and not p":                 "all(<2*x4-1>, not(b7))",
		"p or q or p":                 "any(any(b7, <2*x4-1>), b7)",
		"p or (q or p)":               "any(b7, any(<2*x4-1>, b7))",
		"v < a":                       "<-1*x0+2*x4>",
		"v <= a":                      "<-1*x0+2*x4-1>",
		"v > a":                       "<1*x0-2*x4+2>",
		"v >= a":                      "<1*x0-2*x4+1>",
		"v = a":                       "all(<-1*x0+2*x4-1>, <1*x0-2*x4+1>)",
		"v != 3":                      "not(all(<2*x4-4>, <-2*x4+4>))",
		"3 * v - a * -(2 + 1) <= a":   "<2*x0+6*x4-3>",
		"-v - -a < 2 * 3 * v * (1-1)": "<1*x0-2*x4+2>",
		"2 * (v + 1) > 0":             "<-4*x4+1>",
		"1 < 2":                       "<0>",
	} {
		if got := formText(gen.Pred(exprOf(t, s), nums, truths)); got != want {
			t.Errorf("Pred(%s) = %s, not %s", s, got, want)
		}
	}
}

// TestPredLast: of a name that is there twice the last one counts; a name of a number
// and one of a truth are different ones.
func TestPredLast(t *testing.T) {
	nums := []gen.Named{{Name: "a", T: num(1)}, {Name: "b", T: num(5)}, {Name: "a", T: num(2)}}
	truths := []gen.NamedF{{Name: "b", F: formula.Truth(1)}, {Name: "a", F: formula.Truth(3)}, {Name: "b", F: formula.Truth(2)}}
	got := formText(gen.Pred(exprOf(t, "a + b < 0 and a and b"), nums, truths))
	if want := "all(all(<8>, b3), b2)"; got != want {
		t.Errorf("%s, not %s", got, want)
	}
}

// TestPredSums: sums may be handed in in any form, those that are answered are in the
// one form.
func TestPredSums(t *testing.T) {
	odd := linear.Term{Const: big.Int{Neg: true, Mag: []uint32{3, 0}}, Parts: []linear.Part{{Var: 5, Coef: big.Of(2)}, {Var: 1, Coef: big.Of(0)}, {Var: 5, Coef: big.Of(-2)}}}
	f := gen.Pred(exprOf(t, "a * b <= 0"), []gen.Named{{Name: "a", T: linear.Var(2)}, {Name: "b", T: odd}}, nil)
	want := formula.Below(linear.Scale(linear.Var(2), big.Of(-3)))
	if !reflect.DeepEqual(tidyForm(f), tidyForm(want)) {
		t.Errorf("%v, not %v", f, want)
	}
}

// TestPredValues: a predicate is so of sums just where it is of their values.
func TestPredValues(t *testing.T) {
	for seed := range int64(2000) {
		m := newMaker(seed)
		m.inPred = true
		nums := []gen.Named{}
		truths := []gen.NamedF{}
		names := map[string]datum{}
		val := formula.Val{}
		for i := range 4 {
			n := big.Of(int64(m.Intn(9) - 4))
			val.Nums = append(val.Nums, linear.Binding{Var: i, N: n})
			if m.Intn(2) == 0 {
				val.Trues = append(val.Trues, i)
			}
		}
		for i := range 3 {
			name := fmt.Sprint("n", i)
			sum := linear.Add(linear.Scale(linear.Var(m.Intn(4)), big.Of(int64(m.Intn(5)-2))), num(int64(m.Intn(5)-2)))
			nums = append(nums, gen.Named{Name: name, T: sum})
			names[name] = datum{n: linear.Eval(sum, val.Nums)}
			m.names = append(m.names, base.Name{Name: name, Kind: kind{Base: api.Int}})
			name = fmt.Sprint("t", i)
			f := formula.Any(formula.Truth(m.Intn(4)), formula.LeF(linear.Var(m.Intn(4)), sum))
			truths = append(truths, gen.NamedF{Name: name, F: f})
			names[name] = datum{b: formula.Eval(f, val)}
			m.names = append(m.names, base.Name{Name: name, Kind: kind{Base: api.Bool}})
		}
		s := m.made(truth, 1+m.Intn(4))
		e := exprOf(t, s)
		r := &runner{steps: 1000}
		want := r.of(e, names).b
		if got := formula.Eval(gen.Pred(e, nums, truths), val); got != want {
			t.Fatalf("%s is %v, not %v", s, got, want)
		}
	}
}
