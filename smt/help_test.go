package smt_test

import (
	"math/rand"
	"slices"
	"strconv"
	"testing"

	"whetstone/api"
	"whetstone/big"
	"whetstone/formula"
	"whetstone/linear"
	"whetstone/omega"
	"whetstone/smt"
)

func drawn(seed int) *rand.Rand { return rand.New(rand.NewSource(int64(seed))) }

func num(n int) linear.Term { return linear.Of(big.Of(int64(n))) }

// x is a variable; times is a sum, so many times; sum is several together.
func x(v int) linear.Term { return linear.Var(v) }

func times(n int, t linear.Term) linear.Term { return linear.Scale(t, big.Of(int64(n))) }

func sum(l ...linear.Term) linear.Term {
	all := linear.Term{}
	for _, t := range l {
		all = linear.Add(all, t)
	}
	return all
}

// within: a sum is from low to high.
func within(t linear.Term, low, high int) formula.F {
	return formula.All(formula.LeF(num(low), t), formula.LeF(t, num(high)))
}

func differ(a, b linear.Term) formula.F { return formula.Neg(formula.EqF(a, b)) }

// call is an app of sums.
func call(fn, v int, args ...linear.Term) smt.App { return smt.App{Fn: fn, Args: args, Var: v} }

// asked asks a solver whether formulas can be.
func asked(t *testing.T, s *smt.Solver, l []formula.F, apps []smt.App) bool {
	t.Helper()
	before := s.Asked()
	so, e := s.Sat(l, apps)
	if e != api.OK {
		t.Fatal("Sat is", e)
	}
	if s.Asked() != before+1 {
		t.Fatal("a question isn't counted")
	}
	return so
}

// follows asks a solver whether a formula is so wherever others are.
func follows(t *testing.T, s *smt.Solver, hyps []formula.F, goal formula.F, apps []smt.App) bool {
	t.Helper()
	before := s.Asked()
	so, e := s.Valid(hyps, goal, apps)
	if e != api.OK {
		t.Fatal("Valid is", e)
	}
	if s.Asked() != before+1 {
		t.Fatal("a question isn't counted")
	}
	return so
}

// expect holds the answer of a new solver against what it must be, and those of one
// that was asked much.
func expect(t *testing.T, want bool, l []formula.F, apps ...smt.App) {
	t.Helper()
	if got := asked(t, smt.New(), l, apps); got != want {
		t.Fatalf("%v of %v is %v", texts(l), keys(apps), got)
	}
}

func texts(l []formula.F) []string {
	var out []string
	for _, f := range l {
		out = append(out, formula.Text(f))
	}
	return out
}

func keys(apps []smt.App) []string {
	var out []string
	for _, a := range apps {
		out = append(out, smt.Key(a)+"=x"+strconv.Itoa(a.Var))
	}
	return out
}

// range of values that is gone through, one by one.
type box struct {
	nums, truths []int
	low, high    int
}

// limits: each variable of a box is within it.
func (b box) limits() []formula.F {
	var l []formula.F
	for _, v := range b.nums {
		l = append(l, within(x(v), b.low, b.high))
	}
	return l
}

// canBe goes through all values of a box, one by one.
func (b box) canBe(l []formula.F, apps []smt.App) bool {
	f := formula.All(l...)
	v := formula.Val{}
	for _, n := range b.nums {
		v.Nums = append(v.Nums, linear.Binding{Var: n})
	}
	var from func(i int) bool
	from = func(i int) bool {
		if i == len(v.Nums) {
			return agree(apps, v.Nums) && b.somehow(f, v)
		}
		for n := b.low; n <= b.high; n++ {
			v.Nums[i].N = big.Of(int64(n))
			if from(i + 1) {
				return true
			}
		}
		return false
	}
	return from(0)
}

// somehow: is a formula so by some truths?
func (b box) somehow(f formula.F, v formula.Val) bool {
	for bits := range 1 << len(b.truths) {
		v.Trues = nil
		for i, n := range b.truths {
			if bits>>i&1 == 1 {
				v.Trues = append(v.Trues, n)
			}
		}
		if formula.Eval(f, v) {
			return true
		}
	}
	return false
}

// agree: do apps answer the same for the same?
func agree(apps []smt.App, l []linear.Binding) bool {
	for i, a := range apps {
		for _, b := range apps[:i] {
			if a.Fn != b.Fn || len(a.Args) != len(b.Args) {
				continue
			}
			same := true
			for k := range a.Args {
				same = same && big.Cmp(linear.Eval(a.Args[k], l), linear.Eval(b.Args[k], l)) == 0
			}
			if same && big.Cmp(linear.Eval(x(a.Var), l), linear.Eval(x(b.Var), l)) != 0 {
				return false
			}
		}
	}
	return true
}

// slowly is the answer by going through all ways in which formulas can be so, each
// of which is conditions for layer 12: whatever numbers there are.
func slowly(l []formula.F, apps []smt.App) bool {
	l = slices.Clone(l)
	for i, a := range apps {
		for _, b := range apps[:i] {
			if a.Fn == b.Fn && len(a.Args) == len(b.Args) {
				l = append(l, alike(a, b))
			}
		}
	}
	w := way{truths: map[int]bool{}}
	for i, f := range l {
		l[i] = formula.Nnf(f)
	}
	return w.on(l)
}

func alike(a, b smt.App) formula.F {
	l := []formula.F{formula.EqF(x(a.Var), x(b.Var))}
	for i, t := range a.Args {
		l = append(l, differ(t, b.Args[i]))
	}
	return formula.Any(l...)
}

// way is one in which formulas are so, as far as it was gone.
type way struct {
	truths map[int]bool
	conds  []omega.Cons
}

// on: can the rest be so too?
func (w *way) on(l []formula.F) bool {
	if len(l) == 0 {
		_, ok := omega.Sat(w.conds)
		return ok
	}
	f, rest := l[0], l[1:]
	switch f.Kind {
	case formula.True:
		return w.on(rest)
	case formula.Bool:
		return w.truth(f.Var, true, rest)
	case formula.Not:
		return w.truth(f.Args[0].Var, false, rest)
	case formula.Le:
		w.conds = append(w.conds, omega.Cons{T: linear.Scale(f.T, big.Of(-1))})
		defer func() { w.conds = w.conds[:len(w.conds)-1] }()
		if _, ok := omega.Sat(w.conds); !ok {
			return false
		}
		return w.on(rest)
	case formula.And:
		return w.on(slices.Concat(f.Args, rest))
	case formula.Or:
		return slices.ContainsFunc(f.Args, func(a formula.F) bool { return w.on(slices.Concat([]formula.F{a}, rest)) })
	}
	return false
}

func (w *way) truth(v int, so bool, rest []formula.F) bool {
	if old, ok := w.truths[v]; ok {
		return old == so && w.on(rest)
	}
	w.truths[v] = so
	defer delete(w.truths, v)
	return w.on(rest)
}

// maker draws formulas.
type maker struct {
	*rand.Rand
	nums, truths []int
	most         int // of numbers
}

func newMaker(seed, nums, truths, most int) *maker {
	m := &maker{Rand: drawn(seed), most: most}
	for v := range nums {
		m.nums = append(m.nums, v)
	}
	for v := range truths {
		m.truths = append(m.truths, v)
	}
	return m
}

func (m *maker) number() int { return m.Intn(2*m.most+1) - m.most }

func (m *maker) variable() int { return m.nums[m.Intn(len(m.nums))] }

func (m *maker) sum() linear.Term {
	t := num(m.number())
	for range 1 + m.Intn(3) {
		t = linear.Add(t, times(m.number(), x(m.variable())))
	}
	return t
}

// plain is a sum as they are met most.
func (m *maker) plain() linear.Term {
	switch m.Intn(4) {
	case 0:
		return num(m.number())
	case 1:
		return sum(x(m.variable()), num(m.number()))
	}
	return x(m.variable())
}

func (m *maker) leaf() formula.F {
	switch n := m.Intn(12); {
	case n == 0:
		return []formula.F{formula.Yes(), formula.No(), {Kind: 77}, {Kind: formula.Not}}[m.Intn(4)]
	case n < 4 && len(m.truths) > 0:
		return formula.Truth(m.truths[m.Intn(len(m.truths))])
	case n < 6:
		return formula.EqF(m.plain(), m.plain())
	case n < 8:
		return formula.LtF(m.plain(), m.plain())
	}
	return formula.Below(m.sum())
}

func (m *maker) formula(depth int) formula.F {
	if depth == 0 {
		return m.leaf()
	}
	switch m.Intn(8) {
	case 0:
		return m.leaf()
	case 1, 2:
		return formula.Neg(m.formula(depth - 1))
	case 3:
		return formula.If(m.formula(depth-1), m.formula(depth-1))
	case 4:
		return formula.Iff(m.formula(depth-1), m.formula(depth-1))
	case 5:
		return formula.All(m.row(depth)...)
	}
	return formula.Any(m.row(depth)...)
}

func (m *maker) row(depth int) []formula.F {
	var l []formula.F
	for range m.Intn(4) {
		l = append(l, m.formula(depth-1))
	}
	return l
}

func (m *maker) formulas(count, depth int) []formula.F {
	var l []formula.F
	for range count {
		l = append(l, m.formula(m.Intn(depth+1)))
	}
	return l
}

func (m *maker) apps(count int) []smt.App {
	var l []smt.App
	for range count {
		a := call(m.Intn(2), m.variable())
		for range []int{0, 1, 1, 1, 2, 2, 3}[m.Intn(7)] {
			a.Args = append(a.Args, m.plain())
		}
		l = append(l, a)
	}
	return l
}
