package omega_test

import (
	"slices"
	"testing"

	"whetstone/api"
	"whetstone/big"
	"whetstone/linear"
	"whetstone/omega"
)

// coreOf asks Core, and wants places as the chapter has them: rising, of
// conditions that can't hold together, and can without any one of them.
func coreOf(t *testing.T, l []cons) []int {
	t.Helper()
	places, e := omega.Core(l)
	if e != api.OK {
		t.Fatalf("Core of %s: error %v", texts(l), e)
	}
	var some []cons
	for i, p := range places {
		if p < 0 || p >= len(l) || i > 0 && places[i-1] >= p {
			t.Fatalf("Core of %s: the places %v", texts(l), places)
		}
		some = append(some, l[p])
	}
	satIs(t, false, some)
	for i := range some {
		satIs(t, true, slices.Delete(slices.Clone(some), i, i+1))
	}
	return places
}

// noCore wants that they can hold.
func noCore(t *testing.T, l []cons) {
	t.Helper()
	if places, e := omega.Core(l); e != api.ErrState || len(places) > 0 {
		t.Fatalf("Core of %s = %v, %v", texts(l), places, e)
	}
}

func TestCore(t *testing.T) {
	systems(t, 30, 1500, func(m maker, l []cons, holds bool) {
		if holds {
			noCore(t, l)
		} else {
			coreOf(t, l)
		}
	})
}

func TestCoreOfSkewedSystems(t *testing.T) {
	systems(t, 31, 200, func(m maker, l []cons, holds bool) {
		if !holds {
			coreOf(t, m.skewed(l, 4, 12))
		}
	})
}

func TestCoreOfNothing(t *testing.T) {
	noCore(t, nil)
	noCore(t, []cons{})
	noCore(t, []cons{{T: sum(0)}, {T: sum(0), Eq: true}, {T: sum(1)}})
}

// Where there is only one way, that is told.
func TestCoreWrittenOut(t *testing.T) {
	more := []cons{{T: sum(-1, 1)}, {T: sum(7, 0, 1)}, {T: sum(0, 3, -1, 0, 1)}}
	for _, c := range []struct {
		l    []cons
		want []int
	}{
		{[]cons{{T: sum(-1)}}, []int{0}},
		{[]cons{{T: sum(0, 1)}, {T: sum(1), Eq: true}, {T: sum(0, 2)}}, []int{1}},
		{[]cons{{T: sum(0, 1)}, {T: sum(-5, 1)}, {T: sum(4, -1)}}, []int{1, 2}},
		{[]cons{{T: sum(-2, 5)}, {T: sum(4, -5)}}, []int{0, 1}},
		{[]cons{{T: sum(0, 0, 1)}, {T: sum(-1, 3), Eq: true}, {T: sum(0, 1)}}, []int{1}},
		{append(more[:3:3], consOf(thin(-10, 4))...), []int{3, 4, 5, 6}},
		{append(consOf(thin(-10, 4)), more...), []int{0, 1, 2, 3}},
		{[]cons{{T: sum(0, 1, -1), Eq: true}, {T: sum(0, 0, 0, 1)}, {T: sum(-1, 1, 1), Eq: true}}, []int{0, 2}},
		{[]cons{{T: sum(-3, 1)}, {T: sum(0, 1, -1), Eq: true}, {T: sum(0, 0, 1, -1), Eq: true}, {T: sum(2, 0, 0, -1)}}, []int{0, 1, 2, 3}},
	} {
		if got := coreOf(t, c.l); !slices.Equal(got, c.want) {
			t.Errorf("Core of %s = %v, not %v", texts(c.l), got, c.want)
		}
	}
}

// One of two that say the same is enough.
func TestCoreOfConditionsThatAreThereTwice(t *testing.T) {
	systems(t, 32, 300, func(m maker, l []cons, holds bool) {
		if !holds {
			coreOf(t, append(l, l...))
		}
	})
}

// A ring of conditions needs all of them.
func TestCoreOfARing(t *testing.T) {
	const n = 40
	var l []cons
	for i := range n {
		l = append(l, cons{T: linear.Sub(linear.Var((i+1)%n), linear.Var(i))})
	}
	noCore(t, l)
	l[17].T = linear.Sub(l[17].T, linear.Of(one()))
	l = append(l, cons{T: sum(100, 1)}, cons{T: sum(100, -1)})
	places := coreOf(t, l)
	if len(places) != n || places[n-1] != n-1 {
		t.Error("Core of a ring", places)
	}
}

// Hard ones among others that have no part in it.
func TestCoreOfHardConditions(t *testing.T) {
	a, b := big.Of(1000003), big.Of(999983)
	last := big.Sub(big.Sub(big.Mul(a, b), a), b)
	l := []cons{{T: sum(1, 0, 0, 3, -5)}, {T: sum(9, 1, 1, 1, 1)}}
	l = append(l, coins(a, b, last)...)
	l = append(l, cons{T: sum(-9, 2, 3)}, cons{T: sum(0, 0, 0, -7, 4)})
	if got := coreOf(t, l); !slices.Equal(got, []int{2, 3, 4}) {
		t.Error("Core of coins", got)
	}
}
