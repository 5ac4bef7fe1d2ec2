package omega_test

import (
	"math"
	"slices"
	"testing"

	"whetstone/big"
	"whetstone/linear"
	"whetstone/omega"
)

// The tests of this file are of P12.2: more conditions, more variables that stand
// for others, another order change nothing but what they must.

// someSystem has up to four variables, with bounds or without.
func (m maker) someSystem() []cons {
	n := 1 + m.Intn(4)
	if m.Intn(2) == 0 {
		return consOf(m.boxed(n, 1+m.Int63n(8)))
	}
	return consOf(m.rows(1+m.Intn(7), n, 1+m.Int63n(7), 12))
}

// systems tries a change on systems of both kinds, and wants enough of each.
func systems(t *testing.T, seed int64, count int, try func(m maker, l []cons, holds bool)) {
	t.Helper()
	m := newMaker(seed)
	answers := map[bool]int{}
	for range count {
		l := m.someSystem()
		holds := sat(t, l)
		answers[holds]++
		try(m, slices.Clone(l), holds)
	}
	if answers[true] < count/5 || answers[false] < count/5 {
		t.Error("systems of each kind:", answers)
	}
}

func TestOrderSaysNothing(t *testing.T) {
	systems(t, 20, 600, func(m maker, l []cons, holds bool) {
		for range 3 {
			m.Shuffle(len(l), func(i, j int) { l[i], l[j] = l[j], l[i] })
			satIs(t, holds, l)
		}
		slices.Reverse(l)
		satIs(t, holds, l)
	})
}

// The same condition again, so many times, as two of bounds.
func TestOtherWordsSayNothing(t *testing.T) {
	systems(t, 21, 600, func(m maker, l []cons, holds bool) {
		var other []cons
		for _, c := range l {
			n := big.Of(1 + m.Int63n(9))
			switch {
			case c.Eq && m.Intn(2) == 0:
				other = append(other, cons{T: linear.Scale(c.T, n)}, cons{T: linear.Scale(c.T, big.Neg(n))})
			case c.Eq:
				other = append(other, cons{T: linear.Scale(c.T, big.Neg(n)), Eq: true})
			default:
				other = append(other, cons{T: linear.Scale(c.T, n)})
			}
		}
		satIs(t, holds, other)
		satIs(t, holds, append(other, l...))
		satIs(t, holds, append(l, l...))
	})
}

// Bounds that have no number between them may go as far as the next one.
func TestRoomWithoutNumbersSaysNothing(t *testing.T) {
	systems(t, 22, 600, func(m maker, l []cons, holds bool) {
		for i, c := range l {
			if n := 1 + m.Int63n(9); !c.Eq {
				l[i].T = linear.Add(linear.Scale(c.T, big.Of(n)), linear.Of(big.Of(m.Int63n(n))))
			}
		}
		satIs(t, holds, l)
	})
}

// renamed: a variable has another number, all at once.
func renamed(l []cons, name func(v int) int) []cons {
	var out []cons
	for _, c := range l {
		t := linear.Term{Const: c.T.Const}
		for v, n := range linear.Vars(c.T) {
			t.Parts = append(t.Parts, linear.Part{Var: name(v), Coef: n})
		}
		out = append(out, cons{T: t, Eq: c.Eq})
	}
	return out
}

func TestNamesSayNothing(t *testing.T) {
	systems(t, 23, 400, func(m maker, l []cons, holds bool) {
		for _, name := range []func(v int) int{
			func(v int) int { return 9 - v },
			func(v int) int { return v * 1000003 },
			func(v int) int { return math.MaxInt - v },
			func(v int) int { return []int{7, math.MaxInt, 0, 1 << 40}[v] },
		} {
			satIs(t, holds, renamed(l, name))
		}
	})
}

// A variable stands for another one, by a condition; for a sum or a difference of
// two others; for itself and a number: there are as many whole numbers as ahead.
func TestVariablesThatStandForOthers(t *testing.T) {
	const first = 10
	systems(t, 24, 300, func(m maker, l []cons, holds bool) {
		same, different, moved := slices.Clone(l), slices.Clone(l), slices.Clone(l)
		var told []cons
		for v := range 4 {
			a, b := linear.Var(first+2*v), linear.Var(first+2*v+1)
			away := linear.Add(linear.Var(v), linear.Of(m.great(20)))
			for i := range l {
				same[i].T = linear.Subst(same[i].T, v, a)
				different[i].T = linear.Subst(different[i].T, v, linear.Sub(linear.Scale(a, big.Of(3)), linear.Scale(b, big.Of(2))))
				moved[i].T = linear.Subst(moved[i].T, v, away)
			}
			told = append(told, cons{T: linear.Sub(a, linear.Var(v)), Eq: true})
		}
		satIs(t, holds, same)
		satIs(t, holds, different)
		satIs(t, holds, moved)
		satIs(t, holds, append(told, l...))
		satIs(t, holds, append(append(l, same...), told...))
	})
}

// What can't hold can't with more; what can, can with all that holds by its values.
func TestMoreConditions(t *testing.T) {
	systems(t, 25, 600, func(m maker, l []cons, holds bool) {
		bindings, _ := omega.Sat(l)
		for range 4 {
			more := consOf([]row{m.row(4, 5, 9)})[0]
			if holds && !omega.Holds(more, bindings) {
				more = cons{T: linear.Scale(more.T, big.Of(-1))}
			}
			if holds && !omega.Holds(more, bindings) {
				continue
			}
			l = slices.Insert(l, m.Intn(len(l)+1), more)
			satIs(t, holds, l)
		}
	})
}

// What follows from conditions adds nothing.
func TestWhatFollowsSaysNothing(t *testing.T) {
	systems(t, 26, 600, func(m maker, l []cons, holds bool) {
		for range 3 {
			sum := linear.Of(big.Of(m.Int63n(3)))
			for _, c := range l {
				n := m.Int63n(4)
				if c.Eq {
					n = m.within(4)
				}
				sum = linear.Add(sum, linear.Scale(c.T, big.Of(n)))
			}
			l = slices.Insert(l, m.Intn(len(l)+1), cons{T: sum})
		}
		satIs(t, holds, l)
	})
}

// Systems that have no variable in common hold together just if all do.
func TestSystemsSideBySide(t *testing.T) {
	systems(t, 27, 300, func(m maker, l []cons, holds bool) {
		other := m.someSystem()
		both := append(l, renamed(other, func(v int) int { return v + 4 })...)
		m.Shuffle(len(both), func(i, j int) { both[i], both[j] = both[j], both[i] })
		satIs(t, holds && sat(t, other), both)
	})
}
