package omega

import (
	"maps"
	"slices"

	"whetstone/big"
	"whetstone/linear"
)

// values are those of variables; one that isn't there is 0.
type values map[int]big.Int

// of is the value of a sum in its one form.
func (m values) of(t linear.Term) big.Int {
	sum := t.Const
	for _, p := range t.Parts {
		sum = big.Add(sum, big.Mul(p.Coef, m[p.Var]))
	}
	return sum
}

// move goes so many steps of a way.
func (m values) move(way values, steps big.Int) {
	for v, n := range way {
		m[v] = big.Add(m[v], big.Mul(steps, n))
	}
}

// telling gives a variable that was left out its value, where those of all that
// were left out behind it are known.
type telling func(m values)

// defined: a variable that another sum stands for.
func defined(v int, by linear.Term) telling {
	return func(m values) { m[v] = m.of(by) }
}

// outcome is what a system comes to: values by which it holds, or why it can't.
type outcome struct {
	ok  bool
	m   values
	why []int
}

// with is the outcome with the variables that were left out, in that order.
func (o outcome) with(left []telling) outcome {
	if o.ok {
		for _, tell := range slices.Backward(left) {
			tell(o.m)
		}
	}
	return o
}

// search hands out numbers: of variables that are new, of assumptions.
type search struct {
	nextVar, nextMark int
}

func (s *search) newVar() int {
	s.nextVar++
	return s.nextVar - 1
}

func (s *search) newMark() int {
	s.nextMark++
	return s.nextMark - 1
}

// solve makes a system less, as far as that is cheap and nothing is lost; what is
// left then is looked at as a shape, or as several that have nothing in common.
func (s *search) solve(y *system) outcome {
	var left []telling
	for !y.broken {
		next, tell, ok := s.lessened(y)
		if !ok {
			break
		}
		y, left = next, append(left, tell)
	}
	if y.broken {
		return outcome{why: y.clash}
	}
	return s.solveEach(y.apart()).with(left)
}

// solveEach: systems without a variable in common.
func (s *search) solveEach(groups []*system) outcome {
	all := outcome{ok: true, m: values{}}
	for _, y := range groups {
		out := s.byShape(y)
		if !out.ok {
			return out
		}
		maps.Copy(all.m, out.m)
	}
	return all
}

// lessened is the system with one variable less, or with lesser numbers.
func (s *search) lessened(y *system) (*system, telling, bool) {
	if e, ok := y.equality(); ok {
		v, by, why := s.told(e)
		return y.replaced(v, by, why), defined(v, by), true
	}
	if v, ok := y.cheapest(); ok {
		rest, tell := y.without(v)
		return rest, tell, true
	}
	return nil, nil, false
}

// told: a variable of an equality that is there once is told by the others; if
// there is none, one is told by a new one, so that the Coefs become less.
func (s *search) told(e strip) (v int, by linear.Term, why []int) {
	v, n := leastCoef(e.t)
	if !isUnit(n) {
		return v, s.lessening(e.t, v, n), nil
	}
	rest := linear.Sub(linear.Of(e.low.n), linear.Without(e.t, v))
	return v, linear.Scale(rest, n), union(e.low.why, e.high.why)
}

// lessening is what a variable is told by, so that of a sum in which it is there
// n times all other Coefs become at most half of n. Whole numbers stay whole by
// it, there and back: so it says nothing, and needs no why.
func (s *search) lessening(t linear.Term, v int, n big.Int) linear.Term {
	by := linear.Var(s.newVar())
	for w, m := range linear.Vars(t) {
		if w != v {
			by.Parts = append(by.Parts, linear.Part{Var: w, Coef: big.Neg(nearest(m, n))})
		}
	}
	return linear.Norm(by)
}

// nearest is a divided by b, rounded to the nearest number.
func nearest(a, b big.Int) big.Int {
	q, _ := big.Floor(big.Add(big.Add(a, a), b), big.Add(b, b))
	return q
}
