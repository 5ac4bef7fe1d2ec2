package smt

import (
	"math/rand"
	"slices"
	"testing"

	"whetstone/big"
	"whetstone/formula"
	"whetstone/linear"
)

// The tests of this file look inside: what must hold of all that is kept, and of
// the parts.

func number(n int) linear.Term { return linear.Of(big.Of(int64(n))) }

// draw is a formula over some variables.
func draw(r *rand.Rand, depth int) formula.F {
	if depth == 0 {
		if r.Intn(4) == 0 {
			return formula.Truth(r.Intn(3))
		}
		t := number(r.Intn(9) - 4)
		for range 1 + r.Intn(3) {
			t = linear.Add(t, linear.Scale(linear.Var(r.Intn(4)), big.Of(int64(r.Intn(7)-3))))
		}
		return formula.Below(t)
	}
	switch r.Intn(4) {
	case 0:
		return formula.Neg(draw(r, depth-1))
	case 1:
		return formula.Iff(draw(r, depth-1), draw(r, depth-1))
	case 2:
		return formula.All(draw(r, depth-1), draw(r, depth-1))
	}
	return formula.Any(draw(r, depth-1), draw(r, depth-1), draw(r, depth-1))
}

// isSoBy: is a literal so, where variables have values and some truths are so?
func (k *known) isSoBy(l literal, m values, trues map[literal]bool) bool {
	v := literal(l.variable())
	so := false
	switch x := k.meanings[v]; x.kind {
	case truth:
		so = trues[v]
	case atom:
		so = big.Cmp(m.of(k.lines[x.line].t), x.most) <= 0
	case gate:
		so = !slices.ContainsFunc(x.parts, func(p literal) bool { return !k.isSoBy(p, m, trues) })
	}
	return so == (l > 0)
}

// What is kept says nothing of a question: whatever the variables' values are, all
// clauses are so if each variable of layer 15 is so just where what it stands for is.
func TestNothingIsSaid(t *testing.T) {
	for seed := range 60 {
		r := rand.New(rand.NewSource(int64(seed)))
		s := New()
		for range 20 {
			var l []formula.F
			var apps []App
			for range 1 + r.Intn(4) {
				l = append(l, draw(r, r.Intn(3)))
				apps = append(apps, App{r.Intn(2), []linear.Term{linear.Var(r.Intn(4))}, r.Intn(4)})
			}
			s.Sat(l, apps)
			k := s.known
			m := values{}
			for v := range 4 {
				m[v] = big.Of(int64(r.Intn(13) - 6))
			}
			trues := map[literal]bool{}
			for _, l := range k.truths {
				trues[l] = r.Intn(2) == 0
			}
			var assume []int
			for v := 1; v < len(k.meanings); v++ {
				l := literal(v)
				if !k.isSoBy(l, m, trues) {
					l = -l
				}
				assume = append(assume, int(l))
			}
			if so, _ := k.search.Solve(assume...); !so {
				t.Fatalf("seed %d: what is kept says something", seed)
			}
		}
	}
}

// Meanings, lines, marks and gates fit each other.
func TestKnown(t *testing.T) {
	r := rand.New(rand.NewSource(3))
	s := New()
	for range 100 {
		s.Sat([]formula.F{draw(r, 2), draw(r, 2)}, nil)
		k := s.known
		if len(k.meanings) != k.search.Vars()+1 {
			t.Fatal("a variable stands for nothing")
		}
		for i, l := range k.lines {
			if k.line(l.t) != i || isTurned(l.t) || big.Cmp(linear.Content(l.t), big.Of(1)) != 0 || big.Sign(l.t.Const) != 0 {
				t.Fatalf("a line of %v", linear.Text(l.t))
			}
			for j, m := range l.marks {
				if j > 0 && big.Cmp(l.marks[j-1].n, m.n) >= 0 {
					t.Fatal("marks don't rise")
				}
				if x := k.meanings[m.atom]; x.kind != atom || x.line != i || big.Cmp(x.most, m.n) != 0 {
					t.Fatal("a mark is another's")
				}
			}
		}
		for text, l := range k.gates {
			if x := k.meanings[l]; x.kind != gate || gateText(x.parts) != text || len(x.parts) < 2 || !slices.IsSorted(x.parts) {
				t.Fatalf("the gate %q", text)
			}
		}
	}
}

func TestGate(t *testing.T) {
	k := newKnown()
	var l []literal
	for v := range 4 {
		l = append(l, k.truth(v))
	}
	for _, c := range []struct {
		parts []literal
		want  literal
	}{
		{nil, always},
		{[]literal{always}, always},
		{[]literal{always, always}, always},
		{[]literal{never}, never},
		{[]literal{always, never}, never},
		{[]literal{l[0], never, l[1]}, never},
		{[]literal{l[2]}, l[2]},
		{[]literal{-l[2], always, -l[2]}, -l[2]},
		{[]literal{l[0], l[1], -l[0]}, never},
		{[]literal{-l[3], l[0], l[1], l[3]}, never},
	} {
		if got := k.gate(slices.Clone(c.parts)); got != c.want {
			t.Errorf("the gate of %v is %d, not %d", c.parts, got, c.want)
		}
	}
	g := k.gate([]literal{l[1], -l[0], l[1], always})
	if g != k.gate([]literal{-l[0], l[1]}) || g == k.gate([]literal{l[0], l[1]}) || k.meanings[g].kind != gate {
		t.Error("gates of the same are others")
	}
}

// An end is told by two, in the strictest way that has an atom.
func TestImplied(t *testing.T) {
	k := newKnown()
	x := linear.Var(0)
	for _, n := range []int{2, 5, 9} {
		k.atom(linear.Sub(x, number(n)))
	}
	for n := -1; n < 12; n++ {
		below, ok := k.implied(linear.Sub(number(n), x)) // x is n at most
		least := 0
		for _, m := range []int{9, 5, 2} {
			if n <= m {
				least = m
			}
		}
		if ok != (n <= 9) || ok && (!below.upper || big.Cmp(below.n, big.Of(int64(least))) != 0) {
			t.Errorf("at most %d: %v, %v", n, below, ok)
		}
		above, ok := k.implied(linear.Sub(x, number(n)))
		most := 0
		for _, m := range []int{3, 6, 10} {
			if n >= m {
				most = m
			}
		}
		if ok != (n >= 3) || ok && (above.upper || big.Cmp(above.n, big.Of(int64(most))) != 0) {
			t.Errorf("at least %d: %v, %v", n, above, ok)
		}
	}
	if _, ok := k.implied(linear.Var(1)); ok {
		t.Error("there is no line")
	}
}

// What is blamed is blamed in the weakest way that has atoms: 0 <= x, x <= y, y <= -9
// can't be, nor can y <= -1, which was met ahead.
func TestWeaken(t *testing.T) {
	s := New()
	x, y := linear.Var(0), linear.Var(1)
	low, between := formula.LeF(number(0), x), formula.LeF(x, y)
	s.Sat([]formula.F{formula.Any(formula.LeF(y, number(-1)), formula.Truth(0)), formula.Any(formula.LeF(y, number(3)), formula.Truth(0))}, nil)
	s.Sat([]formula.F{low, between, formula.LeF(y, number(-9))}, nil)
	k := s.known
	so, _ := k.search.Solve(int(k.atom(linear.Scale(x, big.Of(-1)))), int(k.atom(linear.Sub(x, y))), int(k.atom(linear.Sub(y, number(-1)))))
	if so {
		t.Error("what is blamed is no more than what was met")
	}
	so, _ = k.search.Solve(int(k.atom(linear.Scale(x, big.Of(-1)))), int(k.atom(linear.Sub(x, y))), int(k.atom(linear.Sub(y, number(3)))))
	if !so {
		t.Error("what is blamed is more than can't be")
	}
}

// Of one question no more atoms are made than may be.
func TestMade(t *testing.T) {
	k := newKnown()
	q := newQuestion(k, nil)
	var l []formula.F
	total := linear.Term{}
	for i := range 12 {
		x, y, b := linear.Var(i), linear.Var(100+i), formula.Truth(i)
		l = append(l,
			formula.Iff(b, formula.LtF(x, number(0))),
			formula.If(b, formula.EqF(y, linear.Scale(x, big.Of(-1)))),
			formula.If(formula.Neg(b), formula.EqF(y, x)))
		total = linear.Add(total, y)
	}
	for _, f := range append(l, formula.LtF(total, number(0))) {
		q.require(f, true)
	}
	if q.answer() || q.made == 0 || q.made > mostMade {
		t.Errorf("%d atoms are made", q.made)
	}
}

// Pairs that make no variable are forgotten too, once they are many.
func TestPairs(t *testing.T) {
	s := New()
	v, w := linear.Var(0), linear.Var(1)
	apart := formula.Neg(formula.EqF(v, w))
	for i := range 3 * MostKept {
		args := []linear.Term{linear.Add(linear.Var(2), number(i))}
		others := []linear.Term{linear.Add(linear.Var(3), number(i))}
		apps := []App{{i, args, 0}, {i, others, 1}}
		if so, _ := s.Sat([]formula.F{apart, formula.Any(formula.Truth(0), formula.EqF(linear.Var(2), linear.Var(3))), formula.Neg(formula.Truth(0))}, apps); so {
			t.Fatal("a function answers twice")
		}
		p := s.known.pairs
		if len(p.apps) > 2*len(p.told) || len(p.told) > MostKept/2+1 {
			t.Fatalf("%d pairs of %d apps are kept", len(p.told), len(p.apps))
		}
	}
	if s.Vars() > 50 {
		t.Errorf("%d variables are made", s.Vars())
	}
}

// A pair that was told of is known from the beginning, if both apps are there.
func TestRecall(t *testing.T) {
	s := New()
	v, w := linear.Var(0), linear.Var(1)
	apps := []App{{1, []linear.Term{linear.Var(2)}, 0}, {1, []linear.Term{linear.Var(3)}, 1}, {1, []linear.Term{linear.Var(4)}, 5}}
	s.Sat([]formula.F{formula.Neg(formula.EqF(v, w))}, apps[:2])
	if len(s.known.pairs.told) != 1 || len(s.known.pairs.apps) != 2 {
		t.Fatal("no pair was told of")
	}
	for _, c := range []struct {
		apps []App
		want int
	}{{apps[:2], 1}, {apps, 1}, {apps[1:], 0}, {[]App{apps[1], apps[0]}, 1}, {nil, 0}} {
		q := newQuestion(s.known, c.apps)
		q.recall()
		if len(q.must) != c.want {
			t.Errorf("%d pairs are known", len(q.must))
		}
	}
}

// What must be the same by functions being functions is known without a search.
func TestDerive(t *testing.T) {
	x := linear.Var
	for _, c := range []struct {
		name string
		l    []formula.F
		apps []App
		same [][2]int
	}{
		{"nothing", nil, []App{{1, []linear.Term{x(0)}, 2}, {1, []linear.Term{x(1)}, 3}}, nil},
		{"the same", nil, []App{{1, []linear.Term{x(0)}, 2}, {1, []linear.Term{x(0)}, 3}}, [][2]int{{2, 3}}},
		{"equal", []formula.F{formula.EqF(x(0), x(1))}, []App{{1, []linear.Term{x(0)}, 2}, {1, []linear.Term{x(1)}, 3}}, [][2]int{{2, 3}}},
		{"sums of equal ones", []formula.F{formula.EqF(x(0), x(1))}, []App{{1, []linear.Term{linear.Add(x(0), number(4))}, 2}, {1, []linear.Term{linear.Add(x(1), number(4))}, 3}}, [][2]int{{2, 3}}},
		{"told by others", []formula.F{formula.EqF(x(0), linear.Add(linear.Sub(x(1), x(5)), number(4)))}, []App{{1, []linear.Term{x(0)}, 2}, {1, []linear.Term{linear.Add(linear.Sub(x(1), x(5)), number(4))}, 3}}, [][2]int{{2, 3}}},
		{"a number", []formula.F{formula.EqF(x(0), number(4))}, []App{{1, []linear.Term{x(0), x(0)}, 2}, {1, []linear.Term{number(4), x(0)}, 3}}, [][2]int{{2, 3}}},
		{"of each other", []formula.F{formula.EqF(x(0), x(1))}, []App{{1, []linear.Term{x(0)}, 2}, {1, []linear.Term{x(1)}, 3}, {2, []linear.Term{x(2)}, 4}, {2, []linear.Term{x(3)}, 5}}, [][2]int{{2, 3}, {4, 5}}},
	} {
		q := newQuestion(newKnown(), c.apps)
		for _, f := range c.l {
			q.require(f, true)
		}
		before := len(q.must)
		q.derive()
		var want []literal
		for _, p := range c.same {
			want = append(want, q.k.atom(linear.Sub(x(p[0]), x(p[1]))), q.k.atom(linear.Sub(x(p[1]), x(p[0]))))
		}
		if !slices.Equal(q.must[before:], want) {
			t.Errorf("%s: %v, not %v", c.name, q.must[before:], want)
		}
	}
}
