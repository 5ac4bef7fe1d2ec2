package sat_test

import (
	"math/rand"
	"slices"
	"testing"
)

// The tests of this file are of P15.1 and P15.2: drawn clauses, with variables,
// clauses and questions by turns.

// turn does something with a solver, as it is drawn.
func (b *both) turn(r *rand.Rand, mostVars, mostLits int) {
	b.t.Helper()
	switch n := r.Intn(10); {
	case b.vars == 0 || n == 0 && b.vars < mostVars:
		b.more(1)
		b.holds()
	case n < 6:
		b.add(several(r, b.vars, 1+r.Intn(mostLits)))
		b.holds()
	case n < 7:
		b.s.Reduce()
		b.holds()
	default:
		b.judged(several(r, b.vars, r.Intn(5))...)
	}
}

func TestByTurns(t *testing.T) {
	for seed := range 1500 {
		r := drawn(seed)
		b := newBoth(t, r.Intn(4))
		for range 60 {
			b.turn(r, 1+seed%9, 2+seed%4)
		}
		b.judged()
	}
}

// Three literals to a clause, so many clauses that as often as not they can't be.
func TestDrawn(t *testing.T) {
	for seed := range 400 {
		r := drawn(seed)
		vars := 3 + seed%10
		b := newBoth(t, vars)
		for range vars * 5 {
			b.add(several(r, vars, 3))
			b.judged(several(r, vars, r.Intn(vars))...)
			if r.Intn(4) == 0 {
				b.s.Reduce()
			}
		}
		b.judged()
	}
}

// Clauses that are made so as to be so by some values, which may be assumed, all or
// in part; one literal that is otherwise and the clauses tell whether that can be.
func TestPlanted(t *testing.T) {
	for seed := range 60 {
		r := drawn(seed)
		vars := 20 + 20*(seed%10)
		b := newBoth(t, vars)
		values := planted(r, vars)
		for range vars * (2 + seed%4) {
			b.add(plantedClause(r, values))
		}
		if !b.ask() || !b.ask(values...) {
			t.Fatal("what was made to be so can't be")
		}
		for range 20 {
			part := several(r, vars, 1+r.Intn(vars/2))
			for i, l := range part {
				part[i] = values[max(l, -l)-1]
			}
			if !b.ask(part...) {
				t.Fatal("what was made to be so can't be, by some of its values")
			}
			part[0] = -part[0]
			b.ask(part...)
			b.s.Reduce()
			if !b.ask() {
				t.Fatal("what was assumed isn't forgotten")
			}
		}
	}
}

// planted are literals of all variables, drawn.
func planted(r *rand.Rand, vars int) []int {
	var values []int
	for v := range vars {
		values = append(values, (v+1)*(1-2*r.Intn(2)))
	}
	return values
}

// plantedClause is one that is so by some values.
func plantedClause(r *rand.Rand, values []int) []int {
	for {
		c := several(r, len(values), 2+r.Intn(3))
		if slices.ContainsFunc(c, func(l int) bool { return values[max(l, -l)-1] == l }) {
			return c
		}
	}
}

// A core is as good as all that was assumed: asked again, in any order, with more
// or by itself, it can't be, and its opposite follows from the clauses.
func TestCoresAgain(t *testing.T) {
	met := 0
	for seed := range 300 {
		r := drawn(seed)
		vars := 5 + seed%6
		b := newBoth(t, vars)
		for range vars * 3 {
			b.add(several(r, vars, 3))
		}
		for range 10 {
			if b.judged(planted(r, vars)...) || len(b.core) == 0 {
				continue
			}
			met++
			core := b.core
			r.Shuffle(len(core), func(i, j int) { core[i], core[j] = core[j], core[i] })
			if b.judged(core...) || b.judged(append(planted(r, vars), core...)...) {
				t.Fatalf("the core %v can be", core)
			}
			before := b.judged()
			for i := range core {
				core[i] = -core[i]
			}
			b.add(core)
			if b.judged() != before {
				t.Fatalf("%v doesn't follow", core)
			}
		}
	}
	if met < 500 {
		t.Errorf("%d cores were met", met)
	}
}

// One solver that is asked all, and for each question one that was asked nothing,
// answer the same.
func TestHistory(t *testing.T) {
	for seed := range 30 {
		r := drawn(seed)
		vars := 25 + seed
		old := newBoth(t, vars)
		for range vars * 4 {
			old.add(several(r, vars, 3))
			if r.Intn(3) > 0 {
				continue
			}
			assume := several(r, vars, r.Intn(8))
			fresh := newBoth(t, vars)
			fresh.add(old.clauses...)
			yes := old.ask(assume...)
			if fresh.ask(assume...) != yes {
				t.Fatalf("seed %d: Solve%v hangs on what was asked ahead", seed, assume)
			}
			if yes {
				continue
			}
			if fresh.ask(old.core...) {
				t.Fatalf("seed %d: Solve%v: the core %v can be", seed, assume, old.core)
			}
			if fresh.ask() == (len(old.core) == 0) {
				t.Fatalf("seed %d: Solve%v: the core is %v", seed, assume, old.core)
			}
		}
	}
}

// Reduce, called at any time, changes no answer.
func TestReduce(t *testing.T) {
	for seed := range 20 {
		r := drawn(seed)
		vars := 50 + 5*seed
		plain, reduced := newBoth(t, vars), newBoth(t, vars)
		for range vars * 4 {
			c := several(r, vars, 3)
			plain.add(c)
			reduced.add(c)
			assume := several(r, vars, r.Intn(6))
			if r.Intn(8) == 0 && plain.ask(assume...) != reduced.ask(assume...) {
				t.Fatalf("seed %d: Solve%v is another", seed, assume)
			}
			before := reduced.s.Learned()
			for range r.Intn(4) {
				reduced.s.Reduce()
				reduced.holds()
			}
			if reduced.s.Learned() > before {
				t.Fatal("Reduce learns")
			}
		}
	}
}
