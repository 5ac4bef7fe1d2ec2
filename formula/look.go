package formula

import (
	"maps"
	"slices"

	"whetstone/api"
	"whetstone/linear"
)

// mostDeep is how many formulas stand in one another at most.
const mostDeep = 600

// visit goes through a formula and all that it is made of, each ahead of its parts.
func visit(f F, see func(a F)) {
	see(f)
	for _, a := range parts(f) {
		visit(a, see)
	}
}

// Vars: the variables of numbers, and of truths, rising.
func Vars(f F) (nums, truths []int) {
	numbers, others := map[int]int{}, map[int]int{}
	visit(f, func(a F) {
		switch a.Kind {
		case Bool:
			others[a.Var]++
		case Le:
			for v := range linear.Vars(a.T) {
				numbers[v]++
			}
		}
	})
	return slices.Sorted(maps.Keys(numbers)), slices.Sorted(maps.Keys(others))
}

// Atoms: the sums that are told to be 0 or less, each once, in the order of their first place.
func Atoms(f F) []linear.Term {
	var l []linear.Term
	met := map[string]int{}
	visit(f, func(a F) {
		if a.Kind != Le {
			return
		}
		text := linear.Text(a.T)
		if met[text]++; met[text] == 1 {
			l = append(l, linear.Norm(a.T))
		}
	})
	return l
}

// Size: how many parts a formula has, itself too.
func Size(f F) int {
	n := 0
	visit(f, func(F) { n++ })
	return n
}

// Deep: how many formulas stand in one another; beyond the most that may: ErrDeep.
func Deep(f F) (int, api.Errno) {
	n := depth(f, mostDeep)
	if n > mostDeep {
		return 0, api.ErrDeep
	}
	return n, api.OK
}

// depth: how many stand in one another; if they are more than so many: one more.
func depth(f F, most int) int {
	if most == 0 {
		return 1
	}
	deepest := 0
	for _, a := range parts(f) {
		// What is too deep at one place needn't be looked at elsewhere.
		if deepest = max(deepest, depth(a, most-1)); deepest == most {
			break
		}
	}
	return deepest + 1
}
