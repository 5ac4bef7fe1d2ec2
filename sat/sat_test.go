package sat_test

import (
	"math"
	"slices"
	"testing"

	"whetstone/api"
	"whetstone/sat"
)

// The tests of this file are of the chapter's table, one call after another, and of
// its example.

func TestExample(t *testing.T) {
	b := newBoth(t, 2)
	b.add([]int{1, 2}, []int{-1, 2})
	if !b.ask() || !b.s.Value(2) {
		t.Error("2 must be so")
	}
	if b.ask(-2) || !slices.Equal(b.s.Core(), []int{-2}) {
		t.Error("2 can't be otherwise", b.s.Core())
	}
	if !b.ask() || !b.s.Value(2) {
		t.Error("what was assumed isn't forgotten")
	}
}

func TestNothing(t *testing.T) {
	b := newBoth(t, 0)
	b.holds()
	if !b.ask() {
		t.Error("nothing can't be")
	}
	b.add([]int{})
	if b.ask() {
		t.Error("a clause without a literal can be")
	}
	b.more(1)
	b.add([]int{1})
	if b.ask() || b.ask(1) || b.ask(-1) || b.ask(1, -1) {
		t.Error("a clause without a literal is forgotten")
	}
}

// A solver that New didn't make is one without a variable.
func TestZero(t *testing.T) {
	b := &both{t: t, s: &sat.Solver{}}
	b.holds()
	b.s.Reduce()
	b.judged()
	b.more(3)
	b.add([]int{1, 2}, []int{-1, 3}, []int{-2, 3})
	b.judged(-3)
	b.judged(1, -2)
}

func TestNil(t *testing.T) {
	var s *sat.Solver
	for _, l := range [][]int{nil, {}, {0}, {1}, {1, -1}, {math.MinInt}} {
		if e := s.Add(l...); e != api.ErrNil {
			t.Errorf("Add%v of nil is %v", l, e)
		}
		if yes, e := s.Solve(l...); yes || e != api.ErrNil {
			t.Errorf("Solve%v of nil is %v, %v", l, yes, e)
		}
	}
	s.Reduce()
	for _, v := range []int{0, 1, -1, math.MinInt, math.MaxInt} {
		if s.Value(v) {
			t.Errorf("Value(%d) of nil is true", v)
		}
	}
	if len(s.Core()) != 0 || s.NewVar() != 0 || s.Vars() != 0 || s.Clauses() != 0 || s.Learned() != 0 {
		t.Error("a nil solver isn't empty")
	}
}

// Ahead of all questions there is no value and no core, whatever was added.
func TestAheadOfQuestions(t *testing.T) {
	b := newBoth(t, 3)
	b.holds()
	b.add([]int{1}, []int{-2, 3}, []int{2})
	b.holds()
	b.add([]int{-1})
	b.holds()
}

// A wrong literal, wherever it stands, changes nothing: not what is asked later, and
// not what the last Solve answered.
func TestAddErrors(t *testing.T) {
	for _, first := range [][]int{nil, {2}, {-1}} {
		b := newBoth(t, 3)
		b.add([]int{1, 2}, []int{-1, 2, 3})
		b.judged(first...)
		for _, x := range foreign(3) {
			for _, l := range [][]int{{x}, {x, 1}, {1, x}, {1, -1, x}, {x, x}, {1, x, 2}} {
				if e := b.s.Add(l...); e != api.ErrArg {
					t.Errorf("Add%v is %v", l, e)
				}
				b.holds()
			}
		}
		for _, l := range [][]int{{}, {-1}, {-2}, {-3}, {-3, -2}, {1}, {-1, -2}} {
			b.judged(l...)
		}
	}
}

func TestSolveErrors(t *testing.T) {
	for _, first := range [][]int{nil, {2}, {-1}, {-2}, {-2, -1}} {
		b := newBoth(t, 3)
		b.add([]int{1, 2}, []int{-1, 2, 3})
		b.judged(first...)
		for _, x := range foreign(3) {
			for _, l := range [][]int{{x}, {x, 1}, {1, x}, {1, -1, x}, {x, x}, {-1, -2, x}} {
				if yes, e := b.s.Solve(l...); yes || e != api.ErrArg {
					t.Errorf("Solve%v is %v, %v", l, yes, e)
				}
				b.holds()
			}
		}
		b.judged()
	}
}

// Where the clauses can't be, wrong literals are told all the same.
func TestErrorsWithoutHope(t *testing.T) {
	b := newBoth(t, 2)
	b.add([]int{1}, []int{-1})
	for _, x := range foreign(2) {
		if e := b.s.Add(1, x); e != api.ErrArg {
			t.Errorf("Add(1, %d) is %v", x, e)
		}
		if yes, e := b.s.Solve(x); yes || e != api.ErrArg {
			t.Errorf("Solve(%d) is %v, %v", x, yes, e)
		}
	}
	b.judged()
	b.judged(2)
}

// A number of no variable may be one later.
func TestLiteralsOfLater(t *testing.T) {
	b := newBoth(t, 0)
	for v := 1; v < 40; v++ {
		if e := b.s.Add(v); e != api.ErrArg {
			t.Fatalf("Add(%d) is %v", v, e)
		}
		if _, e := b.s.Solve(-v); e != api.ErrArg {
			t.Fatalf("Solve(%d) is %v", -v, e)
		}
		b.holds()
		b.more(1)
		if !b.ask(-v) || !b.ask(v) {
			t.Fatalf("%d can't be", v)
		}
		b.add([]int{-v})
	}
}

// Values and cores are of the last Solve: neither clauses nor variables that come
// later change them, nor does what is forgotten.
func TestAnswersStay(t *testing.T) {
	for _, assume := range [][]int{{}, {1, 2}, {-1}, {3, -1, 1}, {-3, 2, -1}, {1, -2}} {
		for _, later := range [][]int{{1}, {-1}, {2}, {-2}, {-1, -2}, {4}, {-4}, {4, 1}, {}} {
			b := newBoth(t, 3)
			b.add([]int{1, 3}, []int{-1, 2})
			b.judged(assume...)
			b.more(1)
			b.holds()
			b.add(later)
			b.holds()
			b.s.Reduce()
			b.holds()
			b.judged(assume...)
			b.judged()
		}
	}
}

// Of three clauses of all that two variables allow, twice the same and opposite
// literals among them, and of all that may be assumed.
func TestAllOfTwo(t *testing.T) {
	all := lists(3, 1, -1, 2, -2)
	for _, first := range all {
		for _, second := range all {
			b := newBoth(t, 2)
			b.add(first, second)
			for _, assume := range all {
				b.judged(assume...)
			}
			for _, third := range [][]int{{1}, {-1, 2}, {-2}} {
				b.add(third)
				b.judged()
				b.judged(2, 1)
			}
		}
	}
}

// lists are all with up to so many of some numbers.
func lists(most int, of ...int) [][]int {
	out := [][]int{{}}
	for at := 0; at < len(out); at++ {
		if len(out[at]) == most {
			break
		}
		for _, n := range of {
			out = append(out, append(slices.Clone(out[at]), n))
		}
	}
	return out
}

// What is assumed twice is in the core once, and where it was first of the order.
func TestAssumedTwice(t *testing.T) {
	b := newBoth(t, 4)
	b.add([]int{-1, -2, -3})
	for _, assume := range [][]int{{1, 1, 2, 3}, {3, 2, 3, 2, 1, 1}, {4, 3, 4, 1, 2, 4}, {1, 2, 1, 2, 1, 2, 3}} {
		if b.judged(assume...) {
			t.Errorf("Solve%v is yes", assume)
		}
		var want []int
		for _, l := range assume {
			if l != 4 && !slices.Contains(want, l) {
				want = append(want, l)
			}
		}
		if !slices.Equal(b.core, want) {
			t.Errorf("Solve%v: the core is %v", assume, b.core)
		}
	}
	for _, assume := range [][]int{{1, 1}, {4, 4, -4}, {-4, 2, 2, 4, 2}, {2, 2, 2, -3}} {
		b.judged(assume...)
	}
}

// What contradicts itself can't be, whatever the clauses.
func TestAssumedAgainst(t *testing.T) {
	b := newBoth(t, 3)
	for range 2 {
		for _, assume := range [][]int{{1, -1}, {-1, 1}, {2, 1, 3, -1}, {-1, -1, 2, 1, 1}} {
			if b.judged(assume...) || len(b.core) != 2 || b.core[0] != -b.core[1] {
				t.Errorf("Solve%v: the core is %v", assume, b.core)
			}
			if !b.judged() {
				t.Error("what was assumed isn't forgotten")
			}
		}
		b.add([]int{1, 2, 3})
	}
}

// Of clauses that can't be there is no core, also if what is assumed can't be for a
// reason of its own that is nearer at hand.
func TestNoCoreWithoutHope(t *testing.T) {
	for things := 2; things < 7; things++ {
		b := newBoth(t, 2)
		b.add([]int{-1, -2})
		b.house(things, things-1)
		if b.ask(1, -1) || len(b.core) > 0 {
			t.Errorf("the core is %v", b.core)
		}
		b = newBoth(t, 2)
		b.add([]int{-1})
		b.house(things, things-1)
		if b.ask(2, 1) || len(b.core) > 0 {
			t.Errorf("the core is %v", b.core)
		}
		if b.ask() || b.ask(2) || len(b.core) > 0 {
			t.Errorf("the core is %v", b.core)
		}
	}
}

// A clause that comes again, in any order of its literals, says nothing more.
func TestClausesTwice(t *testing.T) {
	b := newBoth(t, 3)
	for range 5 {
		b.add([]int{1, 2, 3}, []int{3, 1, 2, 3}, []int{-1, -1, 2}, []int{2, -1}, []int{1, -1}, []int{-3, 2, 3})
		b.judged()
		b.judged(-2)
		b.judged(-2, -3)
		b.judged(-3, -2, 1)
	}
	b.add([]int{-2})
	b.add([]int{-2})
	b.judged()
	b.add([]int{-3, -3})
	b.judged()
	b.judged(1)
}

// A clause stays, however much is asked behind it.
func TestClausesStay(t *testing.T) {
	b := newBoth(t, 4)
	for _, c := range [][]int{{1, 2}, {-1, 3}, {-2, 3}, {-3, 4}, {-4, -1}, {-2, -4}} {
		b.add(c)
		for _, assume := range lists(2, 1, -1, 2, -2, 3, -3, 4, -4) {
			b.judged(assume...)
		}
	}
	if b.judged() {
		t.Error("a clause is forgotten")
	}
}
