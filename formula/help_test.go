package formula_test

import (
	"fmt"
	"maps"
	"math"
	mathbig "math/big"
	"math/rand"
	"slices"
	"strings"
	"testing"

	"whetstone/big"
	"whetstone/formula"
	"whetstone/linear"
)

type (
	form    = formula.F
	term    = linear.Term
	part    = linear.Part
	binding = linear.Binding
)

// sum is what a Term means: a number, and how many times each variable is there
// (never 0 times).
type sum struct {
	number *mathbig.Int
	times  map[int]*mathbig.Int
}

func value(a big.Int) *mathbig.Int {
	n, shifted := new(mathbig.Int), new(mathbig.Int)
	for i, limb := range a.Mag {
		n.Add(n, shifted.Lsh(mathbig.NewInt(int64(limb)), uint(32*i)))
	}
	if a.Neg {
		n.Neg(n)
	}
	return n
}

func sumOf(t term) sum {
	s := sum{value(t.Const), map[int]*mathbig.Int{}}
	for _, p := range t.Parts {
		s.more(p.Var, value(p.Coef))
	}
	return s
}

func (s sum) more(v int, n *mathbig.Int) {
	all := new(mathbig.Int).Set(n)
	if old := s.times[v]; old != nil {
		all.Add(all, old)
	}
	if s.times[v] = all; all.Sign() == 0 {
		delete(s.times, v)
	}
}

// plus is s and n times another sum.
func (s sum) plus(n int64, other sum) sum {
	times := mathbig.NewInt(n)
	out := sum{new(mathbig.Int).Mul(times, other.number), maps.Clone(s.times)}
	out.number.Add(out.number, s.number)
	for v, k := range other.times {
		out.more(v, new(mathbig.Int).Mul(times, k))
	}
	return out
}

func number(n int64) sum { return sum{mathbig.NewInt(n), map[int]*mathbig.Int{}} }

func (s sum) vars() []int { return slices.Sorted(maps.Keys(s.times)) }

func (s sum) text() string {
	out := ""
	add := func(n *mathbig.Int, behind string) {
		digits := n.String()
		if out != "" && !strings.HasPrefix(digits, "-") {
			digits = "+" + digits
		}
		out += digits + behind
	}
	for _, v := range s.vars() {
		add(s.times[v], fmt.Sprintf("*x%d", v))
	}
	if out == "" || s.number.Sign() != 0 {
		add(s.number, "")
	}
	return out
}

// tree is what a formula is by the chapter's words: nothing is in it that isn't
// named, Not has one part, and what is of no kind is False.
type tree struct {
	kind  int
	truth int
	sum   sum
	parts []tree
}

func yes() tree { return tree{kind: formula.True} }

func no() tree { return tree{kind: formula.False} }

func isTrue(so bool) tree {
	if so {
		return yes()
	}
	return no()
}

func below(s sum) tree { return tree{kind: formula.Le, sum: s} }

func not(a tree) tree { return tree{kind: formula.Not, parts: []tree{a}} }

func treeOf(f form) tree {
	switch f.Kind {
	case formula.True:
		return yes()
	case formula.Bool:
		return tree{kind: formula.Bool, truth: f.Var}
	case formula.Le:
		return below(sumOf(f.T))
	case formula.Not:
		if len(f.Args) == 0 {
			return not(no())
		}
		return not(treeOf(f.Args[0]))
	case formula.And, formula.Or:
		out := tree{kind: f.Kind}
		for _, a := range f.Args {
			out.parts = append(out.parts, treeOf(a))
		}
		return out
	}
	return no()
}

func (a tree) text() string {
	switch a.kind {
	case formula.True:
		return "true"
	case formula.Bool:
		return fmt.Sprint("b", a.truth)
	case formula.Le:
		return "(" + a.sum.text() + " <= 0)"
	case formula.Not:
		return "!" + a.parts[0].text()
	case formula.And, formula.Or:
		var l []string
		for _, p := range a.parts {
			l = append(l, p.text())
		}
		return "[ " + strings.Join(l, map[int]string{formula.And: " & ", formula.Or: " | "}[a.kind]) + " ]"
	}
	return "false"
}

// all are a tree and what it is made of, each ahead of its parts.
func (a tree) all() []tree {
	l := []tree{a}
	for _, p := range a.parts {
		l = append(l, p.all()...)
	}
	return l
}

// changed is a tree with others in the places of what it is made of at its ends.
func (a tree) changed(change func(a tree) tree) tree {
	if len(a.parts) == 0 {
		return change(a)
	}
	out := tree{kind: a.kind}
	for _, p := range a.parts {
		out.parts = append(out.parts, p.changed(change))
	}
	return out
}

// isOne: is a number in its one form?
func isOne(a big.Int) bool {
	n := len(a.Mag)
	return n == 0 && !a.Neg || n > 0 && a.Mag[n-1] != 0
}

// isOneForm: is a sum?
func isOneForm(t term) bool {
	ok := isOne(t.Const)
	for i, p := range t.Parts {
		ok = ok && isOne(p.Coef) && len(p.Coef.Mag) > 0 && (i == 0 || t.Parts[i-1].Var < p.Var)
	}
	return ok
}

// bare: has a formula nothing that its kind doesn't name, all through?
func bare(f form) bool {
	named := form{Kind: f.Kind}
	switch f.Kind {
	case formula.False, formula.True:
	case formula.Bool:
		named.Var = f.Var
	case formula.Le:
		named.T = f.T
	case formula.Not:
		if len(f.Args) != 1 {
			return false
		}
		named.Args = f.Args
	case formula.And, formula.Or:
		named.Args = f.Args
	default:
		return false
	}
	return equal(f, named) && !slices.ContainsFunc(f.Args, func(a form) bool { return !bare(a) })
}

func equalInt(a, b big.Int) bool { return a.Neg == b.Neg && slices.Equal(a.Mag, b.Mag) }

func equalTerm(a, b term) bool {
	return equalInt(a.Const, b.Const) && slices.EqualFunc(a.Parts, b.Parts, func(p, q part) bool {
		return p.Var == q.Var && equalInt(p.Coef, q.Coef)
	})
}

// equal: are they the same to the last, nil and empty lists being one?
func equal(a, b form) bool {
	return a.Kind == b.Kind && a.Var == b.Var && equalTerm(a.T, b.T) && slices.EqualFunc(a.Args, b.Args, equal)
}

// is wants a formula: that tree, and nothing else in it.
func is(t *testing.T, what string, got form, want tree) {
	t.Helper()
	if treeOf(got).text() != want.text() {
		t.Fatalf("%s is %s, not %s", what, treeOf(got).text(), want.text())
	}
	if !bare(got) {
		t.Fatalf("%s has what its kinds don't name: %v", what, got)
	}
}

// odd is a number in another form.
func odd(n int64) big.Int {
	if n == 0 {
		return big.Int{Neg: true, Mag: []uint32{0, 0}}
	}
	a := big.Of(n)
	a.Mag = append(a.Mag, 0, 0)
	return a
}

func times(v int, n big.Int) part { return part{Var: v, Coef: n} }

// line is number, and coefs times the variables 0, 1, ..
func line(number int64, coefs ...int64) term {
	t := term{Const: big.Of(number)}
	for v, n := range coefs {
		t.Parts = append(t.Parts, part{Var: v, Coef: big.Of(n)})
	}
	return t
}

// le is a Le of any sum, as it is handed in.
func le(number int64, coefs ...int64) form {
	return form{Kind: formula.Le, T: line(number, coefs...)}
}

func of(kind int, args ...form) form { return form{Kind: kind, Args: args} }

func b(v int) form { return form{Kind: formula.Bool, Var: v} }

// maker makes formulas of a fixed source.
type maker struct {
	*rand.Rand
	great bool // numbers, variables and truths may be far away
}

func newMaker(seed int64) maker { return maker{rand.New(rand.NewSource(seed)), false} }

func newGreatMaker(seed int64) maker { return maker{rand.New(rand.NewSource(seed)), true} }

func (m maker) number() big.Int {
	a := big.Of(int64(m.Intn(15) - 7))
	if m.great && m.Intn(3) == 0 {
		a.Mag = make([]uint32, m.Intn(5))
		for i := range a.Mag {
			a.Mag[i] = m.Uint32() >> m.Intn(32)
		}
	}
	for range m.Intn(8) - 5 {
		a.Mag = append(a.Mag, 0)
	}
	return a
}

// variable is of a number or a truth: both have the same numbers.
func (m maker) variable() int {
	if m.great && m.Intn(4) == 0 {
		return []int{math.MinInt, -1, 9, math.MaxInt}[m.Intn(4)]
	}
	return m.Intn(2)
}

func (m maker) term() term {
	t := term{Const: m.number()}
	for range (1 + m.Intn(9)) / 2 {
		t.Parts = append(t.Parts, part{Var: m.variable(), Coef: m.number()})
	}
	if m.Intn(2) == 0 {
		times := big.Of(int64(1 + m.Intn(6)))
		for i, p := range t.Parts {
			t.Parts[i].Coef = big.Mul(p.Coef, times)
		}
	}
	return t
}

// junk puts something into all fields that a formula's kind doesn't name.
func (m maker) junk(f form) form {
	if f.Kind != formula.Bool {
		f.Var = m.variable()
	}
	if f.Kind != formula.Le {
		f.T = m.term()
	}
	switch f.Kind {
	case formula.And, formula.Or:
	case formula.Not:
		if len(f.Args) > 0 {
			f.Args = append(f.Args, m.formula(1))
		}
	default:
		f.Args = []form{m.formula(1), m.formula(1)}
	}
	return f
}

// formula is one of so many in one another at most. What says all, or nothing, is
// seldom, so that there is much left of most formulas that are made simpler.
func (m maker) formula(deep int) form {
	var f form
	choice := m.Intn(20)
	if deep <= 1 {
		choice %= 9
	}
	switch {
	case choice == 0:
		f.Kind = m.Intn(2)
	case choice < 4:
		f = b(m.variable())
	case choice < 9:
		f = form{Kind: formula.Le, T: m.term()}
	case choice < 12:
		f = of(formula.Not, m.formula(deep-1))
	default:
		f = of(formula.And+m.Intn(2), m.list(deep-1, 1+m.Intn(4))...)
	}
	switch m.Intn(60) {
	case 0:
		f.Args = nil
	case 1:
		f.Kind = []int{math.MinInt, -1, 7, 8, math.MaxInt}[m.Intn(5)]
	case 2, 3, 4:
		f = m.junk(f)
	}
	return f
}

func (m maker) list(deep, count int) []form {
	var l []form
	for range count {
		l = append(l, m.formula(deep))
	}
	return l
}

// leaves are formulas without parts, of every kind.
func leaves() []form {
	return []form{
		{}, {Kind: formula.True}, b(0), b(1), b(math.MinInt), le(0), le(1), le(-1), le(3, 2), le(-3, -2), le(0, 6, -9), le(4, 6, -9),
		{Kind: formula.Le, T: term{Const: odd(-1), Parts: []part{times(1, odd(4)), times(0, odd(0)), times(1, odd(2))}}},
		{Kind: formula.Le, T: term{Const: odd(0), Parts: []part{times(1, odd(4)), times(0, odd(0)), times(1, odd(-4))}}},
		{Kind: formula.Le, T: term{Const: odd(1), Parts: []part{times(0, odd(0))}}},
		{Kind: formula.Not}, {Kind: formula.And}, {Kind: formula.Or}, {Kind: 7}, {Kind: -1},
		{Kind: formula.Not, Args: []form{}}, {Kind: formula.And, Args: []form{}}, {Kind: formula.Or, Args: []form{}},
		{Kind: formula.True, Var: 3, T: line(1, 1), Args: []form{b(1)}},
		{Kind: formula.False, Var: 3, T: line(1, 1), Args: []form{b(1)}},
		{Kind: formula.Bool, Var: 1, T: line(1, 1), Args: []form{b(0)}},
		{Kind: formula.Le, Var: 1, T: line(1, 4), Args: []form{b(0)}},
		{Kind: math.MaxInt, Var: 1, T: line(1, 4), Args: []form{b(0), {Kind: formula.True}}},
	}
}

// each goes through formulas of every kind: leaves, all kinds of them, with no
// parts, one, two and many, and others of a fixed source.
func each(m maker, count int, try func(f form)) {
	for _, a := range leaves() {
		try(a)
		for _, kind := range []int{formula.Not, formula.And, formula.Or} {
			try(of(kind, a))
			try(of(kind, of(kind, a)))
			try(form{Kind: kind, Var: 2, T: line(2, 3), Args: []form{a}})
			for _, c := range leaves() {
				try(of(kind, a, c))
				try(of(formula.Not, of(kind, a, c)))
				try(of(kind, of(formula.And, a, c), of(formula.Or, c, a), c))
			}
		}
	}
	for range count {
		try(m.formula(1 + m.Intn(6)))
	}
}
