package sat_test

import (
	"slices"
	"testing"

	"whetstone/sat"
)

// The tests of this file are of P15.3, and of questions with many variables,
// clauses or assumptions.

// More things than holes can't each have a hole of its own; as many can, and fewer.
func TestHoles(t *testing.T) {
	for holes := range 9 {
		for things := range holes + 2 {
			b := newBoth(t, 0)
			b.house(things, holes)
			if b.ask() != (things <= holes) {
				t.Fatalf("%d things in %d holes", things, holes)
			}
		}
	}
}

// Much too many, and as many with all but few of them told.
func TestGreaterHoles(t *testing.T) {
	b := newBoth(t, 0)
	b.house(20, 7)
	if b.ask() {
		t.Error("20 things in 7 holes")
	}
	b = newBoth(t, 0)
	at := b.house(40, 40)
	if !b.ask() {
		t.Error("40 things in 40 holes")
	}
	var told []int
	for i := range 33 {
		told = append(told, at[i][(7*i+3)%40])
	}
	if !b.ask(told...) {
		t.Error("40 things in 40 holes, with 33 told")
	}
	// Two of them in one hole, or one without any.
	if told[30] = at[30][(7*29+3)%40]; b.ask(told...) || len(b.core) != 2 {
		t.Error("two things in one hole", b.core)
	}
	told = nil
	for hole := range 40 {
		told = append(told, -at[5][hole])
	}
	if b.ask(told...) || !slices.Equal(b.core, told) {
		t.Error("a thing without a hole", b.core)
	}
}

// Whether there are too many things hangs on what is assumed, and is forgotten.
func TestHolesAssumed(t *testing.T) {
	b := newBoth(t, 3)
	b.house(8, 7, 1, 2)
	b.house(6, 6, 3)
	for range 3 {
		if b.ask(3, 2, 1) || !slices.Equal(b.core, []int{2, 1}) {
			t.Error("8 things in 7 holes", b.core)
		}
		if !b.ask() || !b.ask(3) || !b.ask(1, 3) || !b.ask(-1, 2) {
			t.Error("what was assumed isn't forgotten")
		}
		b.s.Reduce()
	}
	b.add([]int{1})
	if b.ask(3, 2) || !slices.Equal(b.core, []int{2}) {
		t.Error("8 things in 7 holes", b.core)
	}
	b.add([]int{2})
	if b.ask(3) || len(b.core) > 0 {
		t.Error("8 things in 7 holes", b.core)
	}
}

// As many holes as things, of which any may be shut for a question.
func TestHolesShut(t *testing.T) {
	const count = 7
	b := newBoth(t, count)
	at := b.house(count, count)
	for hole := range count {
		for i := range at {
			b.add([]int{-1 - hole, -at[i][hole]})
		}
	}
	for range 2 {
		for hole := range count {
			if b.ask(1+hole) || !slices.Equal(b.core, []int{1 + hole}) {
				t.Fatal("a hole is shut", b.core)
			}
			if !b.ask(-1 - hole) {
				t.Fatal("no hole is shut")
			}
		}
	}
}

const many = 100000

// row are numbers from one to another.
func row(from, to int) []int {
	var l []int
	for n := from; n <= to; n++ {
		l = append(l, n)
	}
	return l
}

// One follows from another, and so on, from either end.
func TestLongRow(t *testing.T) {
	b := newBoth(t, many)
	for v := 1; v < many; v++ {
		b.add([]int{-v, v + 1})
	}
	if b.ask(1, -many) || !slices.Equal(b.core, []int{1, -many}) {
		t.Error("the core is", b.core)
	}
	if b.ask(-many, 77, 1) || len(b.core) != 2 || b.core[0] != -many {
		t.Error("the core is", b.core)
	}
	if !b.ask(1) || !b.ask(-many) || !b.ask(-many/2, many/2+1) {
		t.Error("a row can't be")
	}
	b.add([]int{1})
	if b.ask(-many) || !slices.Equal(b.core, []int{-many}) {
		t.Error("the core is", b.core)
	}
	if !b.ask() {
		t.Error("a row can't be")
	}
	b.add([]int{-many})
	if b.ask() || b.ask(2) || len(b.core) > 0 {
		t.Error("a row can be")
	}
}

// A ring of which each is other than its neighbours: just if it is of even length.
func TestRings(t *testing.T) {
	for _, count := range []int{2, 3, 4, 5, 100, 101, many, many + 1} {
		b := newBoth(t, count)
		for v := range count {
			next := (v+1)%count + 1
			b.add([]int{v + 1, next}, []int{-v - 1, -next})
		}
		if b.ask() != (count%2 == 0) || b.ask(count) != (count%2 == 0) {
			t.Errorf("a ring of %d", count)
		}
	}
}

// Sums of two that are odd or even, tied to each other crosswise: what they come to
// in all can't be.
func TestOddInAll(t *testing.T) {
	const count = 11
	b := newBoth(t, 2*count)
	for i := range count {
		// Each variable stands in two of the rows, so that all rows come to an even sum.
		x, y, z, w := 1+i, 1+(i+1)%count, 1+count+i, 1+count+(i+4)%count
		for bits := range 16 {
			odd := (bits ^ bits>>1 ^ bits>>2 ^ bits>>3) & 1
			want := 0
			if i == 0 {
				want = 1
			}
			if odd == want {
				continue
			}
			c := []int{x, y, z, w}
			for k := range c {
				if bits>>k&1 == 1 {
					c[k] = -c[k]
				}
			}
			b.add(c)
		}
	}
	if b.ask() {
		t.Error("an even sum is odd")
	}
}

func TestLongClause(t *testing.T) {
	b := newBoth(t, many)
	all := row(1, many)
	b.add(all)
	var not []int
	for _, l := range all {
		not = append(not, -l)
	}
	if b.ask(not...) || !slices.Equal(b.core, not) {
		t.Error("the core isn't all that was assumed")
	}
	if !b.ask(not[:many-1]...) || !b.s.Value(many) {
		t.Error("the last one must be so")
	}
	if !b.ask(not[1:]...) || !b.s.Value(1) {
		t.Error("the first one must be so")
	}
	if !b.ask(append(slices.Clone(all), all...)...) {
		t.Error("all may be so")
	}
}

// Far more is assumed than there are variables.
func TestAssumedMuch(t *testing.T) {
	b := newBoth(t, 5)
	b.add([]int{-1, -5})
	var assume []int
	for i := range many {
		assume = append(assume, 1+i%4)
	}
	if !b.ask(assume...) {
		t.Error("all may be so")
	}
	if b.ask(append(assume, 5)...) || !slices.Equal(b.core, []int{1, 5}) {
		t.Error("the core is", b.core)
	}
	if b.ask(append([]int{5}, assume...)...) || !slices.Equal(b.core, []int{5, 1}) {
		t.Error("the core is", b.core)
	}
}

// Questions for which more must be learnt than may be kept.
func TestLearnedLong(t *testing.T) {
	for seed := range 2 {
		r := drawn(seed)
		const vars = 230
		b := newBoth(t, vars)
		for range vars * 417 / 100 {
			b.add(distinct(several(r, vars, 3)))
		}
		most := 0
		for range 6 {
			b.ask(several(r, vars, r.Intn(3))...)
			most = max(most, b.s.Learned())
		}
		if most > sat.MostLearned {
			t.Errorf("%d clauses are kept that were learnt", most)
		}
	}
}

// distinct leaves literals out that are there twice, or whose opposites are.
func distinct(l []int) []int {
	var out []int
	for _, x := range l {
		if !slices.Contains(out, x) && !slices.Contains(out, -x) {
			out = append(out, x)
		}
	}
	return out
}

// Of clauses each of which is switched on by a variable of its own, the core tells
// which can't be together.
func TestSwitches(t *testing.T) {
	for seed := range 30 {
		r := drawn(seed)
		const vars, count = 12, 80
		b := newBoth(t, vars+count)
		var clauses [][]int
		for i := range count {
			c := distinct(several(r, vars, 3))
			clauses = append(clauses, c)
			b.add(append([]int{-vars - 1 - i}, c...))
		}
		for range 20 {
			some := r.Perm(count)[:1+r.Intn(count)]
			var on []int
			var chosen [][]int
			for _, i := range some {
				on = append(on, vars+1+i)
				chosen = append(chosen, clauses[i])
			}
			if b.ask(on...) != canBe(vars, chosen) {
				t.Fatalf("seed %d: %v", seed, chosen)
			}
			chosen = nil
			for _, l := range b.core {
				chosen = append(chosen, clauses[l-vars-1])
			}
			if !b.yes && canBe(vars, chosen) {
				t.Fatalf("seed %d: the core's clauses can be", seed)
			}
		}
	}
}
