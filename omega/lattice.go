package omega

import (
	"maps"
	"slices"

	"whetstone/big"
	"whetstone/linear"
)

// variables are those of a system, rising.
func (y *system) variables() []int {
	all := map[int]int{}
	for _, s := range y.strips {
		for v := range linear.Vars(s.t) {
			all[v]++
		}
	}
	return slices.Sorted(maps.Keys(all))
}

// squeezed is the system with no more variables than it needs: strip by strip
// those that no strip ahead has are told by new ones, till one of them is left.
func (s *search) squeezed(y *system) (*system, []telling) {
	var left []telling
	ahead := map[int]int{}
	for i := 0; i < len(y.strips); {
		more := linear.Term{}
		for v, n := range linear.Vars(y.strips[i].t) {
			if ahead[v] == 0 {
				more.Parts = append(more.Parts, linear.Part{Var: v, Coef: n})
			}
		}
		if v, n := leastCoef(more); len(more.Parts) > 1 {
			by := s.lessening(more, v, n)
			y, left = y.replaced(v, by, nil), append(left, defined(v, by))
			continue
		}
		for v := range linear.Vars(more) {
			ahead[v]++
		}
		i++
	}
	return y, left
}

// reduced is the system with other variables, by which its shape is about as long
// as it is wide: strips are scaled to one width, so that a variable's Coefs are a
// vector, and these are made short by whole steps.
func (s *search) reduced(y *system) (*system, []telling) {
	vars := y.variables()
	var basis []vector
	for i, v := range vars {
		basis = append(basis, y.scaled(v, i, len(vars)))
	}
	wide := len(y.strips)
	reduce(basis, wide)
	first := s.nextVar
	s.nextVar += len(vars)
	var left []telling
	for i, v := range vars {
		by := linear.Term{}
		for k, b := range basis {
			by.Parts = append(by.Parts, linear.Part{Var: first + k, Coef: b[wide+i]})
		}
		by = linear.Norm(by)
		y, left = y.replaced(v, by, nil), append(left, defined(v, by))
	}
	return y, left
}

// fine makes scales so great that little is lost where they are rounded.
const fine = 16

// vector is numbers: a variable's Coefs in all strips, scaled, and behind them
// how many times each variable of old it is.
type vector []big.Int

// scaled is the vector of a variable, the i-th of n.
func (y *system) scaled(v, i, n int) vector {
	widest := big.Int{}
	for _, s := range y.strips {
		widest = big.Max(widest, big.Sub(s.high.n, s.low.n))
	}
	out := make(vector, len(y.strips)+n)
	for k, s := range y.strips {
		scale, _ := big.Floor(big.Mul(widest, big.Of(fine)), big.Sub(s.high.n, s.low.n))
		out[k] = big.Mul(scale, linear.Coef(s.t, v))
	}
	out[len(y.strips)+i] = big.Of(1)
	return out
}
