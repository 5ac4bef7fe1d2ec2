package omega_test

import (
	"math"
	"reflect"
	"slices"
	"testing"

	"whetstone/api"
	"whetstone/big"
	"whetstone/linear"
	"whetstone/omega"
)

// roomy is a list of conditions in memory of its own, with spare room behind it
// and behind all lists within; their sums needn't be in the one form.
func (m maker) roomy(l []cons) []cons {
	out := make([]cons, 0, len(l)+2)
	for _, c := range l {
		parts := make([]linear.Part, 0, 2*len(c.T.Parts)+5)
		for _, p := range c.T.Parts {
			n := big.Of(m.within(3))
			parts = append(parts, linear.Part{Var: p.Var, Coef: longer(n)}, linear.Part{Var: p.Var, Coef: longer(big.Sub(p.Coef, n))})
		}
		parts = append(parts, linear.Part{Var: m.Intn(9), Coef: longer(big.Int{Neg: true})})
		m.Shuffle(len(parts), func(i, j int) { parts[i], parts[j] = parts[j], parts[i] })
		out = append(out, cons{T: linear.Term{Const: longer(c.T.Const), Parts: parts}, Eq: c.Eq})
	}
	whole := out[:cap(out)]
	for i := len(out); i < len(whole); i++ {
		whole[i] = cons{T: sum(-1)}
	}
	return out
}

// longer is a number with limbs 0 at its end.
func longer(a big.Int) big.Int {
	mag := append(append([]uint32{}, a.Mag...), 0, 0, 7)
	return big.Int{Neg: a.Neg, Mag: mag[:len(mag)-1]}
}

// unfolded is a copy of a list in which the spare room is part of the lists.
func unfolded(l []cons) []cons {
	l = slices.Clone(l[:cap(l)])
	for i, c := range l {
		l[i].T.Const.Mag = slices.Clone(c.T.Const.Mag[:cap(c.T.Const.Mag)])
		l[i].T.Parts = slices.Clone(c.T.Parts[:cap(c.T.Parts)])
		for k, p := range l[i].T.Parts {
			l[i].T.Parts[k].Coef.Mag = slices.Clone(p.Coef.Mag[:cap(p.Coef.Mag)])
		}
	}
	return l
}

// Rules 4 and 5: what is handed in stays as it is, the room behind it isn't read,
// and the same is answered again.
func TestArgumentsStayAsTheyAre(t *testing.T) {
	systems(t, 40, 400, func(m maker, l []cons, holds bool) {
		odd := m.roomy(l)
		want := unfolded(odd)
		satIs(t, holds, odd)
		first, _ := omega.Sat(odd)
		places, e := omega.Core(odd)
		for _, c := range odd {
			omega.Holds(c, first)
		}
		if !reflect.DeepEqual(unfolded(odd), want) {
			t.Fatalf("%s is changed", texts(l))
		}
		if holds != (e == api.ErrState) {
			t.Fatalf("Core of %s: %v, %v", texts(l), places, e)
		}
		if again, _ := omega.Sat(odd); !reflect.DeepEqual(again, first) {
			t.Fatalf("Sat of %s again: %v, %v", texts(l), first, again)
		}
		if again, _ := omega.Core(odd); !slices.Equal(again, places) {
			t.Fatalf("Core of %s again: %v, %v", texts(l), places, again)
		}
	})
}

// What hangs on conditions hangs on their sums, not on how these are written.
func TestFormsOfOneSumAreOne(t *testing.T) {
	systems(t, 41, 400, func(m maker, l []cons, holds bool) {
		odd := m.roomy(l)
		first, _ := omega.Sat(l)
		if got, _ := omega.Sat(odd); !reflect.DeepEqual(got, first) {
			t.Fatalf("Sat of %s hangs on the form: %v, %v", texts(l), first, got)
		}
		for i, c := range odd {
			if holds && omega.Holds(c, first) != omega.Holds(l[i], first) {
				t.Fatalf("Holds of %s hangs on the form", texts(l))
			}
		}
		places, _ := omega.Core(l)
		if got, _ := omega.Core(odd); !slices.Equal(got, places) {
			t.Fatalf("Core of %s hangs on the form: %v, %v", texts(l), places, got)
		}
	})
}

// Answers are new memory, each of its own.
func TestAnswersAreNewMemory(t *testing.T) {
	l := consOf(thin(-10, 4))
	first, _ := omega.Core(l)
	second, _ := omega.Core(l)
	clear(first[:cap(first)])
	if !slices.Equal(second, []int{0, 1, 2, 3}) {
		t.Error("two answers of Core share memory", second)
	}
	l = consOf(thin(-10, 8))
	want, _ := omega.Sat(l)
	want = slices.Clone(want)
	one, _ := omega.Sat(l)
	other, _ := omega.Sat(l)
	clear(one[:cap(one)])
	if !reflect.DeepEqual(other, want) {
		t.Error("two answers of Sat share memory", other)
	}
	satIs(t, true, l)
}

// Of variables below 0 nothing is promised but that Sat ends.
func TestOtherVariablesEnd(t *testing.T) {
	systems(t, 42, 100, func(m maker, l []cons, _ bool) {
		for _, name := range []func(v int) int{
			func(v int) int { return -v },
			func(v int) int { return -1 - v },
			func(v int) int { return math.MinInt + v },
			func(v int) int { return []int{math.MinInt, math.MaxInt, -1, 0}[v] },
		} {
			omega.Sat(renamed(l, name))
		}
	})
}
