package omega_test

import (
	"slices"
	"testing"

	"whetstone/big"
	"whetstone/linear"
)

// The tests of this file are of P12.1, with great numbers: no small box tells what
// must be answered there, but what is known of such conditions does.

func parsed(t *testing.T, s string) big.Int {
	t.Helper()
	n, e := big.Parse(s)
	if e != 0 {
		t.Fatal("no number", s)
	}
	return n
}

func times(n big.Int, v int) linear.Term { return linear.Scale(linear.Var(v), n) }

// skewed: small systems, each variable standing for a sum of new ones with great
// numbers, there and back in whole numbers: what can be stays the same.
func (m maker) skewed(l []cons, n, digits int) []cons {
	for range 1 + m.Intn(3) {
		for v := range n {
			by := linear.Add(linear.Var(v), linear.Of(m.great(digits)))
			for w := range n {
				if w != v && m.Intn(2) == 0 {
					by = linear.Add(by, times(m.great(digits), w))
				}
			}
			for i, c := range l {
				l[i].T = linear.Subst(c.T, v, by)
			}
		}
	}
	return l
}

func TestSkewedBoxes(t *testing.T) {
	m := newMaker(10)
	for i := range 1500 {
		n := 1 + m.Intn(3)
		most := 1 + m.Int63n(5)
		rows := m.boxed(n, most)
		satIs(t, inBox(rows, n, most), m.skewed(consOf(rows), n, 1+i%25))
	}
}

func TestSkewedThinShapes(t *testing.T) {
	m := newMaker(11)
	for low := int64(-14); low <= -6; low++ {
		for high := int64(0); high <= 8; high++ {
			satIs(t, inBox(thin(low, high), 2, 20), m.skewed(consOf(thin(low, high)), 2, 30))
		}
	}
}

// An equality alone can hold just if what divides all Coefs divides its number.
func TestGreatEqualities(t *testing.T) {
	m := newMaker(12)
	for i := range 600 {
		sum := linear.Of(m.great(1 + i%40))
		for v := range 1 + m.Intn(5) {
			sum = linear.Add(sum, times(big.Mul(m.great(1+m.Intn(40)), big.Of(1+m.Int63n(4))), v))
		}
		satIs(t, big.Divides(linear.Content(sum), sum.Const), []cons{{T: sum, Eq: true}})
		// As two bounds, and with room for one number more.
		room := linear.Add(linear.Scale(sum, big.Of(-1)), linear.Of(one()))
		more := big.Sub(sum.Const, one())
		satIs(t, big.Divides(linear.Content(sum), sum.Const), []cons{{T: sum}, {T: linear.Scale(sum, big.Of(-1))}})
		satIs(t, big.Divides(linear.Content(sum), sum.Const) || big.Divides(linear.Content(sum), more), []cons{{T: sum}, {T: room}})
	}
}

// Of several equalities: whole numbers were there first, so they can be found.
func TestGreatSystemsOfEqualities(t *testing.T) {
	m := newMaker(13)
	for i := range 150 {
		n := 1 + m.Intn(5)
		point := m.point(n, 30)
		var l []cons
		for range 1 + m.Intn(n) {
			c := m.through(point, 1+i%30)
			l = append(l, cons{T: c, Eq: true})
		}
		satIs(t, true, l)
		// Three times a sum of them, and 1 more.
		odd := linear.Of(one())
		for _, c := range l {
			odd = linear.Add(odd, linear.Scale(c.T, big.Of(m.within(5))))
		}
		satIs(t, false, append(l, cons{T: linear.Sub(odd, times(big.Of(3), n)), Eq: true}, cons{T: linear.Sub(times(big.Of(3), n), linear.Of(one()))}, cons{T: linear.Sub(linear.Of(big.Of(2)), times(big.Of(3), n))}))
	}
}

// point is numbers of variables.
func (m maker) point(n, digits int) []linear.Binding {
	var l []linear.Binding
	for v := range n {
		l = append(l, linear.Binding{Var: v, N: m.great(digits)})
	}
	return l
}

// through is a sum that is 0 at a point.
func (m maker) through(point []linear.Binding, digits int) linear.Term {
	sum := linear.Term{}
	for _, b := range point {
		sum = linear.Add(sum, times(m.great(digits), b.Var))
	}
	return linear.Sub(sum, linear.Of(linear.Eval(sum, point)))
}

// Conditions that hold at a point, with more or less room around it.
func TestConditionsAroundAPoint(t *testing.T) {
	m := newMaker(14)
	for i := range 150 {
		n := 1 + i%5
		digits := 1 + m.Intn(14)
		point := m.point(n, digits)
		var l []cons
		for range n + m.Intn(n+2) {
			c := m.through(point, digits)
			room := linear.Of(big.Abs(m.great(1 + m.Intn(digits))))
			l = append(l, cons{T: linear.Add(c, room)})
			if m.Intn(2) == 0 {
				l = append(l, cons{T: linear.Sub(room, c)})
			}
		}
		satIs(t, true, l)
		// What is more than all of them together can't be 0 or more any more.
		all := linear.Of(one())
		for _, c := range l {
			all = linear.Add(all, linear.Scale(c.T, big.Of(m.Int63n(3))))
		}
		satIs(t, false, append(l, less(all)))
	}
}

// coins: a x + b y is n, x and y being 0 or more.
func coins(a, b, n big.Int) []cons {
	sum := linear.Sub(linear.Add(times(a, 0), times(b, 1)), linear.Of(n))
	return []cons{{T: sum, Eq: true}, {T: linear.Var(0)}, {T: linear.Var(1)}}
}

// With two coins that no number divides the greatest sum that can't be paid is
// a b - a - b; and of two sums that are that together one can be paid just if the
// other can't.
func TestGreatCoins(t *testing.T) {
	m := newMaker(15)
	for i := range 300 {
		a, b := big.Abs(m.great(2+i%39)), big.Abs(m.great(2+i%39))
		if big.Cmp(a, one()) <= 0 || big.Cmp(b, one()) <= 0 || big.Cmp(big.Gcd(a, b), one()) != 0 {
			continue
		}
		last := big.Sub(big.Sub(big.Mul(a, b), a), b)
		satIs(t, false, coins(a, b, last))
		for n := int64(1); n <= 3; n++ {
			satIs(t, true, coins(a, b, big.Add(last, big.Of(n))))
		}
		_, part, _ := big.DivMod(big.Mul(m.great(40), m.great(40)), last)
		paid := sat(t, coins(a, b, part))
		satIs(t, !paid, coins(a, b, big.Sub(last, part)))
	}
}

// payable: of each rest by the first coin the least sum with that rest that can be
// paid with some coins.
func payable(coins []int) []int {
	least := make([]int, coins[0])
	for i := range least {
		least[i] = i << 40 // out of reach, but for 0
	}
	for again := true; again; {
		again = false
		for rest, n := range least {
			for _, c := range coins[1:] {
				if next := (rest + c) % coins[0]; n+c < least[next] {
					least[next], again = n+c, true
				}
			}
		}
	}
	return least
}

// paid: a sum of coins, of each 0 or more, is n.
func paid(coins []int, n int) []cons {
	all := sum(int64(-n))
	var l []cons
	for v, c := range coins {
		all = linear.Add(all, times(big.Of(int64(c)), v))
		l = append(l, cons{T: linear.Var(v)})
	}
	return append(l, cons{T: all, Eq: true})
}

// Coins that are known to be hard, if one tries them one by one.
func TestHardCoins(t *testing.T) {
	m := newMaker(16)
	for _, coins := range [][]int{
		{12223, 12224, 36674, 61119, 85569},
		{12228, 36679, 36682, 48908, 61139, 73365},
		{25067, 49300, 49717, 62124, 87608, 88025, 113673, 119169},
	} {
		least := payable(coins)
		last := slices.Max(least) - coins[0]
		for _, n := range []int{last, last + 1, last - 1, last / 2, m.Intn(last), m.Intn(last)} {
			satIs(t, n >= least[n%coins[0]], paid(coins, n))
		}
	}
}

// A value may have to be great, though no number of the conditions is.
func TestGreatValues(t *testing.T) {
	var l []cons
	for v := range 40 {
		l = append(l, cons{T: linear.Sub(linear.Var(v+1), times(big.Of(10), v))})
	}
	l = append(l, cons{T: sum(-1, 1)})
	satIs(t, true, l)
	most := parsed(t, "9999999999999999999999999999999999999999")
	satIs(t, false, append(l[:len(l):len(l)], cons{T: linear.Sub(linear.Of(most), linear.Var(40))}))
	satIs(t, true, append(l[:len(l):len(l)], cons{T: linear.Sub(linear.Of(big.Add(most, one())), linear.Var(40))}))
}
