package formula

import (
	"slices"

	"whetstone/big"
	"whetstone/linear"
)

// values is a Val in which values are found at once, however many sums ask.
type values struct {
	nums  map[int]big.Int
	trues map[int]int
}

func valuesOf(v Val) values {
	out := values{map[int]big.Int{}, map[int]int{}}
	// From the last binding on, so that the first one of a variable stays.
	for _, b := range slices.Backward(v.Nums) {
		out.nums[b.Var] = b.N
	}
	for _, n := range v.Trues {
		out.trues[n]++
	}
	return out
}

// Eval: is a formula so, where variables have values?
func Eval(f F, v Val) bool { return valuesOf(v).hold(f) }

func (v values) hold(f F) bool {
	switch f.Kind {
	case True:
		return true
	case Bool:
		return v.trues[f.Var] > 0
	case Le:
		return big.Sign(v.sum(f.T)) <= 0
	case Not:
		return !v.hold(parts(f)[0])
	case And:
		return !slices.ContainsFunc(f.Args, func(a F) bool { return !v.hold(a) })
	case Or:
		return slices.ContainsFunc(f.Args, v.hold)
	}
	return false
}

// sum is a sum's value: of all values, those of its own variables are handed on.
func (v values) sum(t linear.Term) big.Int {
	var l []linear.Binding
	for x := range linear.Vars(t) {
		l = append(l, linear.Binding{Var: x, N: v.nums[x]})
	}
	return linear.Eval(t, l)
}
