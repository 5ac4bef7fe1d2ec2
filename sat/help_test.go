package sat_test

import (
	"math"
	"math/rand"
	"slices"
	"testing"

	"whetstone/api"
	"whetstone/sat"
)

// mask is a clause by bits: variables that may be so, and ones that may not be.
type mask struct{ so, not uint32 }

func maskOf(lits []int) mask {
	var m mask
	for _, l := range lits {
		if l > 0 {
			m.so |= 1 << l
		} else {
			m.not |= 1 << -l
		}
	}
	return m
}

// canBe goes through all values, one by one: can clauses be so, and what is assumed?
func canBe(vars int, clauses [][]int, assume ...int) bool {
	var l []mask
	for _, c := range clauses {
		l = append(l, maskOf(c))
	}
	for _, a := range assume {
		l = append(l, maskOf([]int{a}))
	}
	for bits := range uint32(1) << vars {
		values := bits << 1
		if !slices.ContainsFunc(l, func(m mask) bool { return m.so&values == 0 && m.not&^values == 0 }) {
			return true
		}
	}
	return false
}

// both is a solver, and what it was told.
type both struct {
	t       *testing.T
	s       *sat.Solver
	vars    int
	clauses [][]int
	yes     bool // what the last Solve answered
	values  []bool
	core    []int
}

func newBoth(t *testing.T, vars int) *both {
	b := &both{t: t, s: sat.New()}
	b.more(vars)
	return b
}

// more makes variables, which have their numbers in order.
func (b *both) more(count int) {
	b.t.Helper()
	for range count {
		b.vars++
		if v := b.s.NewVar(); v != b.vars {
			b.t.Fatalf("variable %d has the number %d", b.vars, v)
		}
	}
}

func (b *both) add(clauses ...[]int) {
	b.t.Helper()
	for _, c := range clauses {
		if e := b.s.Add(c...); e != api.OK {
			b.t.Fatalf("Add%v is %v", c, e)
		}
		b.clauses = append(b.clauses, slices.Clone(c))
	}
}

// ask: what Solve answers, once its values or its core are what they must be as
// far as the clauses' own texts tell it.
func (b *both) ask(assume ...int) bool {
	b.t.Helper()
	yes, e := b.s.Solve(assume...)
	if e != api.OK {
		b.t.Fatalf("Solve%v is %v", assume, e)
	}
	b.yes, b.values, b.core = yes, nil, nil
	for v := range b.vars {
		b.values = append(b.values, b.s.Value(v+1))
	}
	b.core = b.s.Core()
	if yes {
		b.fits(assume)
	} else {
		b.picked(assume)
	}
	b.holds()
	return yes
}

// fits: is everything so by the values?
func (b *both) fits(assume []int) {
	b.t.Helper()
	so := func(l int) bool { return l > 0 && b.values[l-1] || l < 0 && !b.values[-l-1] }
	for _, c := range b.clauses {
		if !slices.ContainsFunc(c, so) {
			b.t.Fatalf("Solve%v: the clause %v isn't so", assume, c)
		}
	}
	for _, l := range assume {
		if !so(l) {
			b.t.Fatalf("Solve%v: %d isn't so", assume, l)
		}
	}
}

// picked: is the core some of what was assumed, each once, in its order?
func (b *both) picked(assume []int) {
	b.t.Helper()
	at := 0
	met := map[int]bool{}
	for _, l := range b.core {
		for at < len(assume) && assume[at] != l {
			at++
		}
		if at == len(assume) || met[l] {
			b.t.Fatalf("Solve%v: the core is %v", assume, b.core)
		}
		met[l] = true
	}
}

// judged asks, and holds the answer against all values gone through one by one.
func (b *both) judged(assume ...int) bool {
	b.t.Helper()
	yes := b.ask(assume...)
	if want := canBe(b.vars, b.clauses, assume...); yes != want {
		b.t.Fatalf("Solve%v of %v is %v", assume, b.clauses, yes)
	}
	if !yes {
		b.blamed(assume)
	}
	return yes
}

// blamed: can what is in the core not be, and is there none without need?
func (b *both) blamed(assume []int) {
	b.t.Helper()
	if canBe(b.vars, b.clauses, b.core...) {
		b.t.Fatalf("Solve%v of %v: the core %v can be", assume, b.clauses, b.core)
	}
	if len(b.core) > 0 && !canBe(b.vars, b.clauses) {
		b.t.Fatalf("Solve%v of %v: the core is %v, though the clauses alone can't be", assume, b.clauses, b.core)
	}
}

// holds: Value, Core and the counts are what they were behind the last Solve.
func (b *both) holds() {
	b.t.Helper()
	for v := range b.vars {
		want := b.yes && v < len(b.values) && b.values[v]
		if b.s.Value(v+1) != want {
			b.t.Fatalf("Value(%d) is %v", v+1, !want)
		}
	}
	for _, v := range strangers(b.vars) {
		if b.s.Value(v) {
			b.t.Fatalf("Value(%d) is true", v)
		}
	}
	if l := b.s.Core(); !slices.Equal(l, b.core) || b.yes && len(l) > 0 {
		b.t.Fatalf("Core is %v, not %v", l, b.core)
	}
	if n := b.s.Vars(); n != b.vars {
		b.t.Fatalf("Vars is %d, not %d", n, b.vars)
	}
	if n := b.s.Clauses(); n < 0 || n > len(b.clauses) {
		b.t.Fatalf("Clauses is %d, of %d", n, len(b.clauses))
	}
	if n := b.s.Learned(); n < 0 || n > sat.MostLearned {
		b.t.Fatalf("Learned is %d", n)
	}
}

// strangers are numbers of no variable. Below 0 they aren't, though literals they
// may be.
func strangers(vars int) []int {
	return []int{0, -1, -vars, vars + 1, -vars - 1, vars + 2, 1 << 31, 1 << 32, -1 << 32, 1<<32 + 1, 1<<63 - 1, math.MinInt, math.MinInt + 1}
}

// foreign are literals of no variable.
func foreign(vars int) []int {
	return slices.DeleteFunc(strangers(vars), func(l int) bool { return l < 0 && l >= -vars })
}

func drawn(seed int) *rand.Rand { return rand.New(rand.NewSource(int64(seed))) }

// literal draws one of so many variables.
func literal(r *rand.Rand, vars int) int {
	l := 1 + r.Intn(vars)
	if r.Intn(2) == 0 {
		return -l
	}
	return l
}

// several draws some literals; twice the same, and opposite ones, may be among them.
func several(r *rand.Rand, vars, count int) []int {
	l := []int{}
	for range count {
		l = append(l, literal(r, vars))
	}
	return l
}

// house: so many things, each of which has a hole of its own; what must be assumed,
// if anything, for that to be asked. The variable of each thing and hole.
func (b *both) house(things, holes int, when ...int) [][]int {
	b.t.Helper()
	at := make([][]int, things)
	var not []int
	for _, l := range when {
		not = append(not, -l)
	}
	for i := range at {
		for range holes {
			b.more(1)
			at[i] = append(at[i], b.vars)
		}
		b.add(append(slices.Clone(not), at[i]...))
	}
	for hole := range holes {
		for i := range things {
			for j := range i {
				b.add(append(slices.Clone(not), -at[i][hole], -at[j][hole]))
			}
		}
	}
	return at
}
