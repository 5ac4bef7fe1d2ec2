package formula_test

import (
	"maps"
	mathbig "math/big"
	"slices"
	"testing"

	"whetstone/big"
	"whetstone/formula"
)

// world is a value for each variable (0, if there is none) and the truths that
// are so: what formulas are held against, value by value.
type world struct {
	nums  map[int]*mathbig.Int
	trues map[int]bool
}

func (w world) at(s sum) *mathbig.Int {
	out := new(mathbig.Int).Set(s.number)
	for v, n := range s.times {
		if x := w.nums[v]; x != nil {
			out.Add(out, new(mathbig.Int).Mul(n, x))
		}
	}
	return out
}

// so: is a formula so, by the chapter's words?
func (w world) so(a tree) bool {
	switch a.kind {
	case formula.True:
		return true
	case formula.Bool:
		return w.trues[a.truth]
	case formula.Le:
		return w.at(a.sum).Sign() <= 0
	case formula.Not:
		return !w.so(a.parts[0])
	case formula.And, formula.Or:
		count := 0
		for _, p := range a.parts {
			if w.so(p) {
				count++
			}
		}
		return count == len(a.parts) && a.kind == formula.And || count > 0 && a.kind == formula.Or
	}
	return false
}

// with is a world with another value of a variable.
func (w world) with(v int, n *mathbig.Int) world {
	nums := maps.Clone(w.nums)
	nums[v] = n
	return world{nums, w.trues}
}

func (w world) withTruth(v int, so bool) world {
	trues := maps.Clone(w.trues)
	trues[v] = so
	return world{w.nums, trues}
}

// worlds are those of two variables, from -most to most, and two truths.
func worlds(most int64) []world {
	var l []world
	for x := -most; x <= most; x++ {
		for y := -most; y <= most; y++ {
			for trues := range 4 {
				nums := map[int]*mathbig.Int{0: mathbig.NewInt(x), 1: mathbig.NewInt(y)}
				l = append(l, world{nums, map[int]bool{0: trues&1 > 0, 1: trues&2 > 0}})
			}
		}
	}
	return l
}

// alike wants two formulas to be so just where each other is.
func alike(t *testing.T, what string, l []world, f, g form) {
	t.Helper()
	a, b := treeOf(f), treeOf(g)
	for _, w := range l {
		if w.so(a) != w.so(b) {
			t.Fatalf("%s of %s is %s: they differ by %v, %v", what, a.text(), b.text(), w.nums, w.trues)
		}
	}
}

// The tests below are of P14.2, by values gone through one by one.

func TestSimpleIsSoWhereItWas(t *testing.T) {
	l := worlds(5)
	each(newMaker(11), 300, func(f form) { alike(t, "Simple", l, f, formula.Simple(f)) })
}

func TestNnfIsSoWhereItWas(t *testing.T) {
	l := worlds(5)
	each(newMaker(12), 300, func(f form) { alike(t, "Nnf", l, f, formula.Nnf(f)) })
}

// A sum between bounds that are near each other: rounding must be just so.
func TestSimpleIsSoAtTheBounds(t *testing.T) {
	l := worlds(6)
	for coef := int64(-5); coef <= 5; coef++ {
		for n := int64(-20); n <= 20; n++ {
			for _, f := range []form{le(n, coef), le(n, 2*coef, -3*coef)} {
				alike(t, "Simple", l, f, formula.Simple(f))
				alike(t, "Simple of Not", l, of(formula.Not, f), formula.Simple(of(formula.Not, f)))
				alike(t, "Nnf of Not", l, of(formula.Not, f), formula.Nnf(of(formula.Not, f)))
			}
		}
	}
}

// Subst is so where the formula is with the variable having the sum's value, also
// if the sum has the variable itself.
func TestSubstMeansWhatItSays(t *testing.T) {
	l, m := worlds(3), newMaker(13)
	each(newMaker(14), 300, func(f form) {
		v, by := m.Intn(3), m.term()
		got, a, s := treeOf(formula.Subst(f, v, by)), treeOf(f), sumOf(by)
		for _, w := range l {
			if w.so(got) != w.with(v, w.at(s)).so(a) {
				t.Fatalf("Subst of %s, %d, %s is %s: not by %v, %v", a.text(), v, s.text(), got.text(), w.nums, w.trues)
			}
		}
	})
}

func TestSubstBoolMeansWhatItSays(t *testing.T) {
	l, m := worlds(3), newMaker(15)
	each(newMaker(16), 300, func(f form) {
		v, by := m.Intn(3), m.formula(3)
		got, a, c := treeOf(formula.SubstBool(f, v, by)), treeOf(f), treeOf(by)
		for _, w := range l {
			if w.so(got) != w.withTruth(v, w.so(c)).so(a) {
				t.Fatalf("SubstBool of %s, %d, %s is %s: not by %v, %v", a.text(), v, c.text(), got.text(), w.nums, w.trues)
			}
		}
	})
}

// val is a world as it is handed in, the first binding of a variable holding.
func (m maker) val() (formula.Val, world) {
	v, w := formula.Val{}, world{map[int]*mathbig.Int{}, map[int]bool{}}
	for range m.Intn(6) {
		x := binding{Var: m.variable(), N: m.number()}
		v.Nums = append(v.Nums, x)
		if w.nums[x.Var] == nil {
			w.nums[x.Var] = value(x.N)
		}
	}
	for range m.Intn(4) {
		n := m.variable()
		v.Trues = append(v.Trues, n)
		w.trues[n] = true
	}
	return v, w
}

func TestEval(t *testing.T) {
	for _, m := range []maker{newMaker(17), newGreatMaker(18)} {
		each(m, 3000, func(f form) {
			a := treeOf(f)
			for range 10 {
				v, w := m.val()
				if formula.Eval(f, v) != w.so(a) {
					t.Fatalf("Eval of %s by %v isn't %v", a.text(), v, w.so(a))
				}
			}
			if w := (world{}); formula.Eval(f, formula.Val{}) != w.so(a) {
				t.Fatalf("Eval of %s without values isn't %v", a.text(), w.so(a))
			}
		})
	}
}

// The first binding of a variable holds, without one it is 0; a truth that is
// listed twice is so; variables and truths of one number are different ones.
func TestEvalValues(t *testing.T) {
	one, two := big.Of(1), big.Of(-1)
	positive := le(1, -1) // 1 - x0 <= 0
	cases := []struct {
		f    form
		v    formula.Val
		want bool
	}{
		{positive, formula.Val{}, false},
		{positive, formula.Val{Nums: []binding{{Var: 0, N: one}}}, true},
		{positive, formula.Val{Nums: []binding{{Var: 0, N: one}, {Var: 0, N: two}}}, true},
		{positive, formula.Val{Nums: []binding{{Var: 0, N: two}, {Var: 0, N: one}}}, false},
		{positive, formula.Val{Nums: []binding{{Var: 0, N: odd(0)}, {Var: 0, N: one}}}, false},
		{positive, formula.Val{Nums: []binding{{Var: 1, N: one}}, Trues: []int{0}}, false},
		{le(0, 1), formula.Val{}, true},
		{le(0, 1), formula.Val{Nums: []binding{{Var: 0, N: odd(0)}}}, true},
		{b(0), formula.Val{}, false},
		{b(0), formula.Val{Nums: []binding{{Var: 0, N: one}}}, false},
		{b(0), formula.Val{Trues: []int{0}}, true},
		{b(0), formula.Val{Trues: []int{5, 0, 0}}, true},
		{b(0), formula.Val{Trues: []int{1}}, false},
		{of(formula.Not), formula.Val{}, true},
		{of(formula.And), formula.Val{}, true},
		{of(formula.Or), formula.Val{}, false},
		{of(formula.Not, of(formula.Or)), formula.Val{}, true},
		{form{Kind: 7}, formula.Val{}, false},
		{of(formula.Not, form{Kind: -1}), formula.Val{}, true},
	}
	for _, c := range cases {
		if got := formula.Eval(c.f, c.v); got != c.want {
			t.Errorf("Eval of %s by %v is %v", treeOf(c.f).text(), c.v, got)
		}
	}
}

// Many sums and many bindings.
func TestEvalOfMany(t *testing.T) {
	var l []form
	var v formula.Val
	for i := range 20000 {
		v.Nums = append(v.Nums, binding{Var: i, N: big.Of(int64(i))})
		v.Trues = append(v.Trues, i)
		l = append(l, form{Kind: formula.Le, T: term{Const: big.Of(int64(-i)), Parts: []part{times(i, big.Of(1))}}}, b(i))
	}
	if !formula.Eval(of(formula.And, l...), v) {
		t.Error("all of them are so")
	}
	for i, f := range l {
		l[i] = of(formula.Not, f)
	}
	if formula.Eval(of(formula.Or, l...), v) {
		t.Error("none of them is so")
	}
	slices.Reverse(v.Nums)
	v.Trues = v.Trues[:19999]
	if !formula.Eval(of(formula.Or, l...), v) {
		t.Error("one of them is so")
	}
}
