package sat_test

import (
	"math"
	"slices"
	"testing"

	"whetstone/api"
	"whetstone/sat"
)

// The tests of this file are of P1: the rules that hold everywhere.

// spare is a list with room behind it that nobody may change.
func spare(l []int) (list, whole []int) {
	whole = append(slices.Clone(l), 91, 92, 93, 94, 95, 96, 97, 98)
	return whole[:len(l)], whole
}

// Lists that are handed in aren't changed, nor their spare room, and aren't kept.
func TestListsAreLeft(t *testing.T) {
	for seed := range 200 {
		r := drawn(seed)
		vars := 2 + seed%7
		b := newBoth(t, vars)
		for range 4 * vars {
			c := several(r, vars, 1+r.Intn(4))
			list, whole := spare(c)
			before := slices.Clone(whole)
			b.add(list)
			if !slices.Equal(whole, before) {
				t.Fatalf("Add changed %v to %v", before, whole)
			}
			scribble(whole)
			list, whole = spare(several(r, vars, r.Intn(5)))
			before = slices.Clone(whole)
			b.ask(list...)
			if !slices.Equal(whole, before) {
				t.Fatalf("Solve changed %v to %v", before, whole)
			}
			scribble(whole)
			b.holds()
			b.judged()
		}
	}
}

func scribble(l []int) {
	for i := range l {
		l[i] = math.MinInt + i
	}
}

// With a wrong literal too nothing is changed.
func TestWrongListsAreLeft(t *testing.T) {
	b := newBoth(t, 3)
	for _, x := range foreign(3) {
		list, whole := spare([]int{3, 1, x, 2, -1, 1})
		before := slices.Clone(whole)
		if e := b.s.Add(list...); e != api.ErrArg {
			t.Errorf("Add%v is %v", list, e)
		}
		if _, e := b.s.Solve(list...); e != api.ErrArg {
			t.Errorf("Solve%v is %v", list, e)
		}
		if !slices.Equal(whole, before) {
			t.Errorf("%v was changed to %v", before, whole)
		}
	}
}

// A core is new memory, each time.
func TestCoresAreNew(t *testing.T) {
	b := newBoth(t, 3)
	b.add([]int{-1, -2, -3})
	assume := []int{3, 1, 2}
	b.ask(assume...)
	core := b.s.Core()
	scribble(core[:cap(core)])
	b.holds()
	if !slices.Equal(assume, []int{3, 1, 2}) {
		t.Error("a core shares memory with what was assumed")
	}
	core = b.s.Core()
	b.ask(1)
	b.ask(2, 3, 1)
	if !slices.Equal(core, []int{3, 1, 2}) {
		t.Error("a core changed to", core)
	}
}

// Nil and empty lists are one.
func TestNilLists(t *testing.T) {
	for _, l := range [][]int{nil, {}, make([]int, 0, 4)} {
		b := newBoth(t, 1)
		if !b.ask(l...) {
			t.Error("nothing can't be")
		}
		b.add(l)
		if b.ask(l...) || b.ask(1) {
			t.Error("a clause without a literal can be")
		}
	}
}

// Solvers that were told the same answer the same, also where an answer is free, and
// whatever was done with others between.
func TestSameAnswers(t *testing.T) {
	for seed := range 30 {
		r := drawn(seed)
		vars := 10 + 3*seed
		x, y := newBoth(t, vars), newBoth(t, vars)
		for range vars * 4 {
			c := several(r, vars, 3)
			x.add(c)
			y.add(c)
			if r.Intn(4) > 0 {
				continue
			}
			assume := several(r, vars, r.Intn(5))
			x.ask(assume...)
			other := newBoth(t, 3)
			other.ask(1, 2, -2)
			y.ask(assume...)
			if x.yes != y.yes || !slices.Equal(x.values, y.values) || !slices.Equal(x.core, y.core) {
				t.Fatalf("seed %d: Solve%v has two answers", seed, assume)
			}
			if x.s.Learned() != y.s.Learned() || x.s.Clauses() != y.s.Clauses() {
				t.Fatalf("seed %d: Solve%v leaves two counts", seed, assume)
			}
		}
	}
}

// A call with an error leaves no trace: what comes later is what it would be.
func TestErrorsLeaveNoTrace(t *testing.T) {
	for seed := range 30 {
		r := drawn(seed)
		vars := 10 + 2*seed
		x, y := newBoth(t, vars), newBoth(t, vars)
		for range vars * 4 {
			c := several(r, vars, 3)
			x.add(c)
			y.add(c)
			wrong := append(several(r, vars, 2), foreign(vars)[r.Intn(len(foreign(vars)))])
			if e := y.s.Add(wrong...); e != api.ErrArg {
				t.Fatalf("Add%v is %v", wrong, e)
			}
			if yes, e := y.s.Solve(wrong...); yes || e != api.ErrArg {
				t.Fatalf("Solve%v is %v, %v", wrong, yes, e)
			}
			y.holds()
			assume := several(r, vars, r.Intn(5))
			x.ask(assume...)
			y.ask(assume...)
			if x.yes != y.yes || !slices.Equal(x.values, y.values) || !slices.Equal(x.core, y.core) || x.s.Clauses() != y.s.Clauses() {
				t.Fatalf("seed %d: Solve%v hangs on wrong calls", seed, assume)
			}
		}
	}
}

// Calls that just look change nothing.
func TestLooking(t *testing.T) {
	b := newBoth(t, 4)
	b.add([]int{1, 2}, []int{-1, 3})
	for _, assume := range [][]int{{}, {-2, -3}, {4, -4}} {
		b.ask(assume...)
		for range 3 {
			b.holds()
		}
	}
}

// Clauses are counted as far as they are kept, and those that say something are.
func TestClausesCount(t *testing.T) {
	b := newBoth(t, 5)
	b.add([]int{1, 2})
	if b.s.Clauses() != 1 {
		t.Error("of one clause are kept", b.s.Clauses())
	}
	b.add([]int{-1, 3, 4}, []int{5})
	if b.s.Clauses() != 3 {
		t.Error("of three clauses are kept", b.s.Clauses())
	}
	for range 10 {
		b.add([]int{1, -1}, []int{5}, []int{5, 2})
		b.holds()
	}
	if b.s.Clauses() > 3 {
		t.Error("clauses are kept that say nothing:", b.s.Clauses())
	}
	if sat.MostLearned != 20000 {
		t.Error("MostLearned is", sat.MostLearned)
	}
}
