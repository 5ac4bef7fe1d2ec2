package linear_test

import (
	"maps"
	"math"
	mathbig "math/big"
	"math/rand"
	"slices"
	"testing"

	"whetstone/big"
	"whetstone/linear"
)

type (
	term    = linear.Term
	part    = linear.Part
	binding = linear.Binding
)

// value is what a number means, told by another library.
func value(a big.Int) *mathbig.Int {
	sum := new(mathbig.Int)
	for i, limb := range a.Mag {
		n := new(mathbig.Int).SetUint64(uint64(limb))
		sum.Add(sum, n.Lsh(n, uint(32*i)))
	}
	if a.Neg {
		sum.Neg(sum)
	}
	return sum
}

// sum is what a Term means by the chapter's words: a number, and how many times
// each variable is there (never 0 times).
type sum struct {
	number *mathbig.Int
	times  map[int]*mathbig.Int
}

func meaning(t term) sum {
	m := sum{value(t.Const), map[int]*mathbig.Int{}}
	for _, p := range t.Parts {
		m.more(p.Var, value(p.Coef))
	}
	return m
}

func (m sum) more(v int, n *mathbig.Int) {
	all := new(mathbig.Int).Set(n)
	if old := m.times[v]; old != nil {
		all.Add(all, old)
	}
	if m.times[v] = all; all.Sign() == 0 {
		delete(m.times, v)
	}
}

// plus is m and n times another sum.
func (m sum) plus(n *mathbig.Int, other sum) sum {
	out := sum{new(mathbig.Int).Mul(n, other.number), maps.Clone(m.times)}
	out.number.Add(out.number, m.number)
	for v, k := range other.times {
		out.more(v, new(mathbig.Int).Mul(n, k))
	}
	return out
}

func (m sum) vars() []int { return slices.Sorted(maps.Keys(m.times)) }

// coef is how many times a variable is there.
func (m sum) coef(v int) *mathbig.Int {
	if n := m.times[v]; n != nil {
		return n
	}
	return new(mathbig.Int)
}

func (m sum) equal(other sum) bool {
	same := func(a, b *mathbig.Int) bool { return a.Cmp(b) == 0 }
	return same(m.number, other.number) && maps.EqualFunc(m.times, other.times, same)
}

// isOne: is a number in its one form?
func isOne(a big.Int) bool {
	n := len(a.Mag)
	return n == 0 && !a.Neg || n > 0 && a.Mag[n-1] != 0
}

// check wants a sum, in its one form.
func check(t *testing.T, what string, got term, want sum) {
	t.Helper()
	if !meaning(got).equal(want) {
		t.Fatalf("%s is %v, not %v", what, meaning(got), want)
	}
	ok := isOne(got.Const)
	for i, p := range got.Parts {
		ok = ok && isOne(p.Coef) && len(p.Coef.Mag) > 0 && (i == 0 || got.Parts[i-1].Var < p.Var)
	}
	if !ok {
		t.Fatalf("%s isn't in the one form: %v", what, got)
	}
}

// checkNumber wants a number, in its one form.
func checkNumber(t *testing.T, what string, got big.Int, want *mathbig.Int) {
	t.Helper()
	if value(got).Cmp(want) != 0 || !isOne(got) {
		t.Fatalf("%s is %v, not %v", what, got, want)
	}
}

// odd is a number in another form.
func odd(n int64) big.Int {
	a := big.Of(n)
	if n == 0 {
		return big.Int{Neg: true, Mag: []uint32{0, 0}}
	}
	a.Mag = append(a.Mag, 0, 0)
	return a
}

// samples are sums of every kind that may be handed in.
func samples() []term {
	great, _ := big.Parse("-123456789012345678901234567890123456789012345")
	return []term{
		{}, {Parts: []part{}}, {Const: odd(0)}, {Const: big.Of(7)}, {Const: odd(-7)}, {Const: great},
		{Parts: []part{{3, big.Of(1)}}}, {Parts: []part{{3, big.Of(0)}}}, {Parts: []part{{3, odd(0)}}}, {Parts: []part{{0, odd(-2)}}},
		{Const: big.Of(5), Parts: []part{{3, big.Of(1)}, {1, big.Of(2)}, {3, big.Of(-1)}}},
		{Const: big.Of(1), Parts: []part{{2, big.Of(4)}, {2, big.Of(-4)}}},
		{Const: big.Of(1), Parts: []part{{2, odd(4)}, {2, odd(-4)}, {2, odd(0)}}},
		{Const: odd(1), Parts: []part{{1, big.Of(4)}, {2, big.Of(-6)}, {5, big.Of(10)}}},
		{Const: odd(1), Parts: []part{{5, big.Of(4)}, {2, big.Of(6)}, {1, big.Of(-10)}}},
		{Parts: []part{{1, big.Of(1)}, {1, big.Of(1)}, {1, big.Of(1)}}},
		{Parts: []part{{-1, big.Of(1)}, {0, big.Of(-1)}, {1, odd(1)}}},
		{Parts: []part{{math.MaxInt, big.Of(-3)}, {math.MinInt, big.Of(9)}, {0, big.Of(6)}, {-5, big.Of(12)}}},
		{Const: great, Parts: []part{{2, great}, {3, big.Neg(great)}, {2, great}}},
		{Const: big.Of(-1), Parts: []part{{4, big.Int{Mag: []uint32{0, 0, 8, 0}}}, {1, big.Int{Neg: true, Mag: []uint32{0, 4}}}}},
	}
}

// maker makes sums of a fixed source.
type maker struct{ *rand.Rand }

func newMaker(seed int64) maker { return maker{rand.New(rand.NewSource(seed))} }

// number is small most often, so that sums cancel out, and in no form of choice.
func (m maker) number() big.Int {
	a := big.Of(int64(m.Intn(9) - 4))
	if m.Intn(6) == 0 {
		a.Mag = make([]uint32, m.Intn(5))
		for i := range a.Mag {
			a.Mag[i] = m.Uint32() >> m.Intn(32)
		}
	}
	for range m.Intn(3) {
		a.Mag = append(a.Mag, 0)
	}
	if m.Intn(3) == 0 {
		a.Neg = !a.Neg
	}
	return a
}

func (m maker) variable() int {
	if m.Intn(12) == 0 {
		return []int{math.MinInt, math.MinInt + 1, math.MaxInt - 1, math.MaxInt}[m.Intn(4)]
	}
	return m.Intn(7) - 2
}

func (m maker) term() term {
	t := term{Const: m.number()}
	for range m.Intn(7) {
		t.Parts = append(t.Parts, part{Var: m.variable(), Coef: m.number()})
	}
	if m.Intn(3) == 0 {
		return linear.Norm(t)
	}
	return t
}

func (m maker) bindings() []binding {
	var l []binding
	for range m.Intn(8) {
		l = append(l, binding{Var: m.variable(), N: m.number()})
	}
	return l
}

// pairs are all pairs of samples, and others of a fixed source.
func pairs(try func(a, b term)) {
	for _, a := range samples() {
		for _, b := range samples() {
			try(a, b)
		}
	}
	m := newMaker(1)
	for range 5000 {
		try(m.term(), m.term())
	}
}

// someVars are variables that are in the samples and some that aren't.
func someVars() []int { return []int{math.MinInt, -5, -1, 0, 1, 2, 3, 4, 5, 99, math.MaxInt} }
