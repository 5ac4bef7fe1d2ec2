package omega

import (
	"maps"
	"slices"

	"whetstone/big"
	"whetstone/linear"
)

// sides counts the bounds of a variable from below and from above, and those of
// them in which it is there more than once.
type sides struct {
	low, high         int
	lowMany, highMany int
}

func (y *system) sides() map[int]sides {
	all := map[int]sides{}
	for _, s := range y.strips {
		for v, n := range linear.Vars(s.t) {
			low, high := count(s.low.there), count(s.high.there)
			if big.Sign(n) < 0 {
				low, high = high, low
			}
			x := all[v]
			x.low += low
			x.high += high
			if !isUnit(n) {
				x.lowMany += low
				x.highMany += high
			}
			all[v] = x
		}
	}
	return all
}

func count(b bool) int {
	if b {
		return 1
	}
	return 0
}

// cheapest: a variable that can be left out with nothing lost, since it is there
// once in all bounds of one side, and without more conditions than there were.
func (y *system) cheapest() (int, bool) {
	all := y.sides()
	found, most := 0, -1
	for _, v := range slices.Sorted(maps.Keys(all)) {
		x := all[v]
		fewer := x.low + x.high - x.low*x.high
		if (x.lowMany == 0 || x.highMany == 0) && fewer > most {
			found, most = v, fewer
		}
	}
	return found, most >= 0
}

// without leaves a variable out: each of its lower bounds is at most each upper
// one.
func (y *system) without(v int) (*system, telling) {
	rest := newSystem()
	var low, high []cond
	for _, s := range y.strips {
		if big.Sign(linear.Coef(s.t, v)) == 0 {
			rest.meet(s)
			continue
		}
		for _, c := range s.conds() {
			if big.Sign(linear.Coef(c.t, v)) > 0 {
				low = append(low, c)
			} else {
				high = append(high, c)
			}
		}
	}
	for _, a := range low {
		for _, b := range high {
			rest.add(between(a, b, v))
		}
	}
	return rest, func(m values) { m[v] = fitting(low, high, v, m) }
}

// between: a lower bound of a variable is at most an upper one.
func between(low, high cond, v int) cond {
	below := linear.Scale(low.t, big.Neg(linear.Coef(high.t, v)))
	above := linear.Scale(high.t, linear.Coef(low.t, v))
	return cond{linear.Add(below, above), false, union(low.why, high.why)}
}

// fitting is a value within a variable's bounds, those of the others being known:
// the least one, if there is one.
func fitting(low, high []cond, v int, m values) big.Int {
	best := bound{}
	for _, c := range low {
		best = stricter(best, edge(c, v, m), true)
	}
	if best.there {
		return best.n
	}
	for _, c := range high {
		best = stricter(best, edge(c, v, m), false)
	}
	return best.n
}

// edge is the last value of a variable by which a condition holds.
func edge(c cond, v int, m values) bound {
	n := linear.Coef(c.t, v)
	rest := big.Neg(m.of(linear.Without(c.t, v)))
	if big.Sign(n) > 0 {
		least, _ := big.Ceil(rest, n)
		return bound{there: true, n: least}
	}
	most, _ := big.Floor(rest, n)
	return bound{there: true, n: most}
}
