package formula_test

import (
	"fmt"
	"reflect"
	"slices"
	"strings"
	"testing"

	"whetstone/api"
	"whetstone/big"
	"whetstone/formula"
	"whetstone/linear"
)

// The tests of this file are of P14.3, and of the rules of P1.

// roomy is a formula in memory of its own, with something in the spare room behind
// each of its lists.
func roomy(f form) form {
	out := form{Kind: f.Kind, Var: f.Var, T: roomyTerm(f.T)}
	for _, a := range f.Args {
		out.Args = append(out.Args, roomy(a))
	}
	out.Args = append(slices.Clip(out.Args), b(77), le(7, 7))[:len(f.Args)]
	return out
}

func roomyTerm(t term) term {
	out := term{Const: roomyNumber(t.Const)}
	for _, p := range t.Parts {
		out.Parts = append(out.Parts, times(p.Var, roomyNumber(p.Coef)))
	}
	out.Parts = append(slices.Clip(out.Parts), times(77, odd(77)), times(78, odd(78)))[:len(t.Parts)]
	return out
}

func roomyNumber(n big.Int) big.Int {
	return big.Int{Neg: n.Neg, Mag: append(slices.Clone(n.Mag), 99, 99)[:len(n.Mag)]}
}

// unfolded is a copy of a formula in which the spare room is part of the lists.
func unfolded(f form) form {
	out := form{Kind: f.Kind, Var: f.Var, T: unfoldedTerm(f.T)}
	for _, a := range f.Args[:cap(f.Args)] {
		out.Args = append(out.Args, unfolded(a))
	}
	return out
}

func unfoldedTerm(t term) term {
	out := term{Const: unfoldedNumber(t.Const)}
	for _, p := range t.Parts[:cap(t.Parts)] {
		out.Parts = append(out.Parts, times(p.Var, unfoldedNumber(p.Coef)))
	}
	return out
}

func unfoldedNumber(n big.Int) big.Int {
	return big.Int{Neg: n.Neg, Mag: slices.Clone(n.Mag[:cap(n.Mag)])}
}

// calls are all calls that are given formulas and sums, with what they answer.
func calls() map[string]func(f, g form, s term) any {
	val := func(s term) formula.Val {
		var v formula.Val
		for _, p := range s.Parts {
			v.Nums = append(v.Nums, binding{Var: p.Var, N: p.Coef})
			v.Trues = append(v.Trues, p.Var)
		}
		return v
	}
	return map[string]func(f, g form, s term) any{
		"Below":     func(f, _ form, _ term) any { return formula.Below(f.T) },
		"LeF":       func(f, _ form, s term) any { return formula.LeF(f.T, s) },
		"LtF":       func(f, _ form, s term) any { return formula.LtF(f.T, s) },
		"EqF":       func(f, _ form, s term) any { return formula.EqF(f.T, s) },
		"Neg":       func(f, _ form, _ term) any { return formula.Neg(f) },
		"All":       func(f, g form, _ term) any { return formula.All(f, g) },
		"All of":    func(f, _ form, _ term) any { return formula.All(f.Args...) },
		"Any":       func(f, g form, _ term) any { return formula.Any(f, g) },
		"Any of":    func(f, _ form, _ term) any { return formula.Any(f.Args...) },
		"If":        func(f, g form, _ term) any { return formula.If(f, g) },
		"Iff":       func(f, g form, _ term) any { return formula.Iff(f, g) },
		"Simple":    func(f, _ form, _ term) any { return formula.Simple(f) },
		"Nnf":       func(f, _ form, _ term) any { return formula.Nnf(f) },
		"Eval":      func(f, _ form, s term) any { return formula.Eval(f, val(s)) },
		"Subst":     func(f, _ form, s term) any { return formula.Subst(f, 1, s) },
		"SubstBool": func(f, g form, _ term) any { return formula.SubstBool(f, 1, g) },
		"Vars": func(f, _ form, _ term) any {
			nums, truths := formula.Vars(f)
			return fmt.Sprint(nums, truths)
		},
		"Atoms": func(f, _ form, _ term) any {
			var l []form
			for _, s := range formula.Atoms(f) {
				l = append(l, form{T: s})
			}
			return form{Args: l}
		},
		"Size": func(f, _ form, _ term) any { return formula.Size(f) },
		"Deep": func(f, _ form, _ term) any {
			n, e := formula.Deep(f)
			return [2]int{n, int(e)}
		},
		"Text": func(f, _ form, _ term) any { return formula.Text(f) },
	}
}

// sameAnswer: formulas are held against each other to the last.
func sameAnswer(a, b any) bool {
	f, isF := a.(form)
	g, isG := b.(form)
	return isF && isG && equal(f, g) || !isF && !isG && reflect.DeepEqual(a, b)
}

// What is handed in isn't changed, its spare room neither, and that room isn't
// read; what is asked twice is answered the same.
func TestNothingIsChanged(t *testing.T) {
	m, others := newGreatMaker(51), newMaker(52)
	samples := leaves()
	for range 700 {
		samples = append(samples, m.formula(1+m.Intn(5)))
	}
	for name, call := range calls() {
		for _, x := range samples {
			f, g, s := roomy(x), roomy(others.formula(3)), roomyTerm(others.term())
			wantF, wantG, wantS := unfolded(f), unfolded(g), unfoldedTerm(s)
			first, second := call(f, g, s), call(f, g, s)
			if !reflect.DeepEqual(unfolded(f), wantF) || !reflect.DeepEqual(unfolded(g), wantG) || !reflect.DeepEqual(unfoldedTerm(s), wantS) {
				t.Fatalf("%s changes what it is given: %v, %v, %v", name, x, g, s)
			}
			if !sameAnswer(first, second) || !sameAnswer(first, call(x, g, s)) {
				t.Fatalf("%s answers %v, then %v", name, first, second)
			}
		}
	}
}

// Nil and empty lists are one.
func TestNilAndEmptyAreOne(t *testing.T) {
	full := func(kind int) form {
		return form{Kind: kind, T: term{Const: big.Int{Mag: []uint32{}}, Parts: []part{}}, Args: []form{}}
	}
	for name, call := range calls() {
		for kind := range 8 {
			g, s := full(5), term{Parts: []part{}}
			if !sameAnswer(call(full(kind), g, s), call(form{Kind: kind}, form{Kind: 5}, term{})) {
				t.Errorf("%s of the kind %d: nil and empty aren't one", name, kind)
			}
		}
	}
	if formula.Eval(b(0), formula.Val{Nums: []binding{}, Trues: []int{}}) || !formula.Eval(le(0, 1), formula.Val{Nums: []binding{}}) {
		t.Error("Eval of empty values")
	}
}

// Lists that are handed in aren't kept: All and Any have their own.
func TestListsAreNotKept(t *testing.T) {
	for _, call := range []func(l ...form) form{formula.All, formula.Any} {
		l := []form{b(1), b(2), b(3), b(4)}
		got := call(l[:2]...)
		if !slices.EqualFunc(l, []form{b(1), b(2), b(3), b(4)}, equal) {
			t.Error("a list was changed", l)
		}
		clear(l)
		if len(got.Args) != 2 || !equal(got.Args[0], b(1)) || !equal(got.Args[1], b(2)) {
			t.Error("a list was kept", got)
		}
		l = []form{b(1), b(2), b(3)}
		got = call(l[:2]...)
		clear(got.Args[:cap(got.Args)])
		if !slices.EqualFunc(l, []form{b(1), b(2), b(3)}, equal) {
			t.Error("an answer is a piece of what was handed in", l)
		}
	}
	s := line(1, 1, 2)
	got := formula.Below(s)
	clear(s.Parts)
	if formula.Text(got) != "(1*x0+2*x1+1 <= 0)" {
		t.Error("Below keeps Parts", got)
	}
}

// scribble writes over all lists of a formula, spare room too. (Limbs may be
// shared.)
func scribble(f form) {
	for _, a := range f.Args {
		scribble(a)
	}
	clear(f.Args[:cap(f.Args)])
	clear(f.T.Parts[:cap(f.T.Parts)])
}

// Simple's answer is its own, all through: nothing of it is a piece of what it was
// made of, nor of another answer.
func TestSimpleIsNewMemory(t *testing.T) {
	each(newGreatMaker(53), 500, func(x form) {
		f := roomy(x)
		want := unfolded(f)
		first, second := formula.Simple(f), formula.Simple(f)
		text := formula.Text(second)
		scribble(first)
		if !reflect.DeepEqual(unfolded(f), want) || formula.Text(second) != text {
			t.Fatalf("Simple of %v shares lists", x)
		}
	})
}

// Lists that are answered are new.
func TestListsAreNew(t *testing.T) {
	f := roomy(of(formula.And, b(3), b(1), le(2, 4), le(1, 0, 3)))
	want := unfolded(f)
	nums, truths := formula.Vars(f)
	atoms := formula.Atoms(f)
	clear(nums[:cap(nums)])
	clear(truths[:cap(truths)])
	for _, s := range atoms {
		clear(s.Parts[:cap(s.Parts)])
	}
	clear(atoms[:cap(atoms)])
	if !reflect.DeepEqual(unfolded(f), want) {
		t.Error("a list is a piece of the formula")
	}
	nums, truths = formula.Vars(f)
	if !slices.Equal(nums, []int{0, 1}) || !slices.Equal(truths, []int{1, 3}) || linear.Text(formula.Atoms(f)[0]) != "4*x0+2" {
		t.Error("what was answered ahead changes an answer", nums, truths)
	}
}

func TestValuesStayAsTheyAre(t *testing.T) {
	m := newGreatMaker(54)
	for range 500 {
		v, _ := m.val()
		nums := append(v.Nums, binding{Var: 0, N: big.Of(50)}, binding{Var: 1, N: big.Of(50)})
		trues := append(v.Trues, 0, 1)
		wantNums, wantTrues := slices.Clone(nums), slices.Clone(trues)
		f := m.formula(4)
		got := formula.Eval(f, formula.Val{Nums: nums[:len(v.Nums)], Trues: trues[:len(v.Trues)]})
		if !reflect.DeepEqual(nums, wantNums) || !slices.Equal(trues, wantTrues) {
			t.Fatal("Eval changes values")
		}
		if got != formula.Eval(f, v) {
			t.Fatal("Eval reads the room behind values")
		}
	}
}

// Formulas nested as deep as the document lets them be: every call ends.
func TestVeryDeep(t *testing.T) {
	const n = 1 << 16
	v := formula.Val{Trues: []int{0, 1, 2}}
	for i, f := range nested(n) {
		if got, e := formula.Deep(f); got != 0 || e != api.ErrDeep {
			t.Error("Deep", i, got, e)
		}
		size := formula.Size(f)
		if size < n || size != formula.Size(formula.Subst(f, 1, line(1))) || size != formula.Size(formula.SubstBool(f, 9, b(1))) {
			t.Error("Size", i, size)
		}
		want := formula.Eval(f, v)
		for name, g := range map[string]form{"Simple": formula.Simple(f), "Nnf": formula.Nnf(f), "Subst": formula.Subst(f, 7, line(1, 1)), "SubstBool": formula.SubstBool(f, 0, b(1))} {
			if formula.Eval(g, v) != want {
				t.Error(name, i, "isn't", want)
			}
		}
		if nums, truths := formula.Vars(f); len(nums) > 1 || len(truths) > 2 || len(formula.Atoms(f)) > 1 {
			t.Error("Vars, Atoms", i, nums, truths)
		}
		if text := formula.Text(f); len(text) < n {
			t.Error("Text", i, len(text))
		}
	}
	if got := formula.Text(formula.Simple(nested(n)[0])); got != "!b0" {
		t.Error("Simple of very many Not", got)
	}
	chain := formula.Simple(nested(n)[3])
	if len(chain.Args) != n-1 {
		t.Error("Simple of very many And", len(chain.Args))
	}
}

// Very many parts side by side.
func TestVeryMany(t *testing.T) {
	var l []form
	for i := range 100000 {
		l = append(l, b(i%1000), form{Kind: formula.Le, T: term{Parts: []part{times(i%1000, big.Of(2))}}})
	}
	f := formula.All(l...)
	if formula.Size(f) != 200001 || len(formula.Simple(f).Args) != 200000 || len(formula.Nnf(formula.Neg(f)).Args) != 200000 || len(formula.Atoms(f)) != 1000 {
		t.Error("very many parts")
	}
	if nums, truths := formula.Vars(f); len(nums) != 1000 || len(truths) != 1000 {
		t.Error("Vars of very many parts", len(nums), len(truths))
	}
	if text := formula.Text(f); strings.Count(text, " & ") != 199999 {
		t.Error("Text of very many parts")
	}
}

// The chapter's examples.
func TestExamples(t *testing.T) {
	x := linear.Var(0)
	cases := []struct {
		f    form
		want string
	}{
		{formula.Simple(formula.Below(linear.Add(linear.Scale(x, big.Of(2)), linear.Of(big.Of(1))))), "(1*x0+1 <= 0)"},
		{formula.Simple(formula.All(formula.Yes(), formula.Truth(1))), "b1"},
		{formula.Nnf(formula.Neg(formula.Below(x))), "(-1*x0+1 <= 0)"},
	}
	for _, c := range cases {
		if got := formula.Text(c.f); got != c.want {
			t.Errorf("%s, not %s", got, c.want)
		}
	}
	if f := cases[1].f; !equal(f, b(1)) {
		t.Error("Simple of And of True, Bool 1", f)
	}
}
