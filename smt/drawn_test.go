package smt_test

import (
	"slices"
	"testing"

	"whetstone/formula"
	"whetstone/smt"
)

// The tests of this file are of P16.1 to P16.3, by drawn questions.

// twice asks a solver that was asked much, and a new one.
func twice(t *testing.T, old *smt.Solver, want bool, l []formula.F, apps []smt.App) {
	t.Helper()
	if asked(t, smt.New(), l, apps) != want {
		t.Fatalf("%v of %v isn't %v", texts(l), keys(apps), want)
	}
	if asked(t, old, l, apps) != want {
		t.Fatalf("%v of %v isn't %v any more", texts(l), keys(apps), want)
	}
}

// enough: were there answers of both kinds?
func enough(t *testing.T, counts map[bool]int, least int) {
	t.Helper()
	if counts[true] < least || counts[false] < least {
		t.Errorf("%d could be, %d couldn't", counts[true], counts[false])
	}
}

// Answers are held against all values gone through one by one.
func TestBox(t *testing.T) {
	counts := map[bool]int{}
	old := smt.New()
	for seed := range 3000 {
		m := newMaker(seed, 1+seed%4, seed%3, 3)
		b := box{m.nums, m.truths, -2, 2}
		l := m.formulas(1+m.Intn(5), 3)
		apps := m.apps(m.Intn(5))
		want := b.canBe(l, apps)
		twice(t, old, want, append(b.limits(), l...), apps)
		counts[want]++
	}
	enough(t, counts, 1000)
}

// Functions above all: few numbers, many apps.
func TestBoxOfApps(t *testing.T) {
	counts := map[bool]int{}
	old := smt.New()
	for seed := range 1500 {
		m := newMaker(seed, 4+seed%2, 0, 1)
		b := box{m.nums, nil, 0, 2}
		l := m.formulas(m.Intn(4), 1)
		for range m.Intn(6) {
			l = append(l, differ(x(m.variable()), x(m.variable())))
		}
		apps := m.apps(3 + m.Intn(6))
		want := b.canBe(l, apps)
		twice(t, old, want, append(b.limits(), l...), apps)
		counts[want]++
	}
	enough(t, counts, 300)
}

// Answers are held against all ways in which formulas can be so: numbers have no
// limits.
func TestSlowly(t *testing.T) {
	counts := map[bool]int{}
	old := smt.New()
	for seed := range 3000 {
		m := newMaker(seed, 1+seed%5, seed%3, 5)
		l := m.formulas(1+m.Intn(4), 2)
		apps := m.apps(m.Intn(4))
		want := slowly(l, apps)
		twice(t, old, want, l, apps)
		counts[want]++
	}
	enough(t, counts, 800)
}

// Questions that grow, formula by formula and app by app: what can't be stays so
// (P16.3), and each answer is that of a new solver (P16.2).
func TestMore(t *testing.T) {
	old := smt.New()
	counts := map[bool]int{}
	for seed := range 250 {
		m := newMaker(seed, 3+seed%4, 2, 4)
		var l []formula.F
		var apps []smt.App
		goals := m.formulas(3, 2)
		known := make([]bool, len(goals))
		could := true
		for range 8 {
			if m.Intn(3) == 0 {
				apps = append(apps, m.apps(1)...)
			} else {
				l = append(l, m.formulas(1, 2)...)
			}
			can := asked(t, old, l, apps)
			if can != asked(t, smt.New(), l, apps) || can && !could {
				t.Fatalf("seed %d: %v of %v is %v", seed, texts(l), keys(apps), can)
			}
			could = can
			for i, g := range goals {
				is := follows(t, old, l, g, apps)
				if is != follows(t, smt.New(), l, g, apps) || known[i] && !is || !can && !is {
					t.Fatalf("seed %d: %v follows from %v of %v: %v", seed, formula.Text(g), texts(l), keys(apps), is)
				}
				known[i] = is
				counts[is]++
			}
		}
	}
	enough(t, counts, 1000)
}

// Valid is what Sat says of Neg, and a formula or its Neg can be, where others can.
func TestValidIsSat(t *testing.T) {
	s := smt.New()
	for seed := range 1000 {
		m := newMaker(seed, 3, 2, 4)
		hyps, goal, apps := m.formulas(m.Intn(4), 2), m.formula(2), m.apps(m.Intn(3))
		can := asked(t, s, hyps, apps)
		with := asked(t, s, append(slices.Clone(hyps), goal), apps)
		without := asked(t, s, append(slices.Clone(hyps), formula.Neg(goal)), apps)
		if follows(t, s, hyps, goal, apps) == without || follows(t, s, hyps, formula.Neg(goal), apps) == with {
			t.Fatalf("seed %d: Valid and Sat of %v and %v", seed, texts(hyps), formula.Text(goal))
		}
		if can != (with || without) {
			t.Fatalf("seed %d: %v or not: of %v neither can be", seed, formula.Text(goal), texts(hyps))
		}
	}
}

// What is the same by its meaning has the same answer: another order, parts said
// twice, simpler formulas, other numbers for variables.
func TestSameMeaning(t *testing.T) {
	s := smt.New()
	for seed := range 800 {
		m := newMaker(seed, 4, 2, 4)
		l, apps := m.formulas(1+m.Intn(5), 3), m.apps(m.Intn(4))
		want := asked(t, s, l, apps)
		others := append(slices.Clone(l), l[m.Intn(len(l))])
		m.Shuffle(len(others), func(i, j int) { others[i], others[j] = others[j], others[i] })
		turned := append(slices.Clone(apps), apps[:len(apps)/2]...)
		slices.Reverse(turned)
		simple, plain := make([]formula.F, len(l)), make([]formula.F, len(l))
		for i, f := range l {
			simple[i], plain[i] = formula.Simple(f), formula.Nnf(f)
		}
		for name, k := range map[string][]formula.F{"order": others, "simple": simple, "nnf": plain, "all": {formula.All(l...)}, "no any": {formula.Neg(formula.Any(negated(l)...))}} {
			if asked(t, s, k, turned) != want || asked(t, smt.New(), k, apps) != want {
				t.Fatalf("seed %d: %s of %v isn't %v", seed, name, texts(l), want)
			}
		}
		for i := range simple {
			for v := range 4 {
				simple[i] = formula.Subst(simple[i], v, x(-100*v-7))
			}
		}
		for i, a := range turned {
			b := call(a.Fn+50, -100*a.Var-7)
			for _, t := range a.Args {
				f := formula.F{Kind: formula.Le, T: t}
				for v := range 4 {
					f = formula.Subst(f, v, x(-100*v-7))
				}
				b.Args = append(b.Args, f.T)
			}
			turned[i] = b
		}
		if asked(t, s, simple, turned) != want {
			t.Fatalf("seed %d: %v with other variables isn't %v", seed, texts(l), want)
		}
	}
}

func negated(l []formula.F) []formula.F {
	var out []formula.F
	for _, f := range l {
		out = append(out, formula.Neg(f))
	}
	return out
}
