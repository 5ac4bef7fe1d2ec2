package gen

import (
	"whetstone/api"
	"whetstone/formula"
	"whetstone/linear"
	"whetstone/syntax"
)

// isOpen: is the predicate of a function's place, of that type, to be found?
func isOpen(it syntax.Item, t syntax.Type) bool {
	return !it.Pub && t.Base == api.Int && len(t.Pred) == 0
}

// typeAt: the type of a function's place.
func typeAt(it syntax.Item, pos int) syntax.Type {
	if pos == Result {
		return it.Result
	}
	return it.Params[pos].Type
}

// said: what is said of a function's place, of a value and of those that the
// parameters ahead of it stand for; false: nothing is.
func said(it syntax.Item, pos int, v value, ahead []bound) (Hyp, bool) {
	t := typeAt(it, pos)
	switch {
	case len(t.Pred) > 0:
		// The list is cut with its room: the value that is next in it stays.
		nums, truths := parted(append(ahead[:len(ahead):len(ahead)], bound{"v", v}))
		return holds(Pred(t.Pred[0], nums, truths)), true
	case isOpen(it, t):
		use := Use{K: Kap{Fn: it.Name, Pos: pos}, Args: []linear.Term{v.num}}
		nums, _ := parted(ahead)
		for _, n := range nums {
			use.Args = append(use.Args, n.T)
		}
		return Hyp{If: formula.Yes(), IsK: true, Use: use}, true
	}
	return Hyp{}, false
}

// parted: the numbers and the truths among names.
func parted(names []bound) (nums []Named, truths []NamedF) {
	for _, n := range names {
		switch n.value.base {
		case api.Int:
			nums = append(nums, Named{n.name, n.value.num})
		case api.Bool:
			truths = append(truths, NamedF{n.name, n.value.is})
		}
	}
	return nums, truths
}
