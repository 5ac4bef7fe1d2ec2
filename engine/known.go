package engine

import (
	"whetstone/base"
	"whetstone/gen"
	"whetstone/horn"
	"whetstone/syntax"
)

// known is what is known of a right text.
type known struct {
	quals     []string            // as layer 9 prints them, in their order
	functions map[string]function // by their names
	sol       horn.Sol
	broken    map[horn.Query]struct{} // conditions that don't hold, of those whose Heads are formulas
}

// function is what is known of one.
type function struct {
	text  string // its bytes
	head  string // as layer 9 prints it
	conds []gen.Cons
}

// learn: what is known of right items ahead of any condition.
func learn(items []item) known {
	k := known{
		functions: map[string]function{},
		sol:       horn.Sol{},
		broken:    map[horn.Query]struct{}{},
	}
	for _, it := range items {
		if it.tree.Kind == syntax.Qual {
			k.quals = append(k.quals, syntax.Print(it.tree))
		} else {
			k.functions[it.tree.Name] = function{text: it.text, head: headOf(it.tree)}
		}
	}
	return k
}

// headOf: a function as it is printed, but for its body.
func headOf(it syntax.Item) string {
	it.Body = syntax.Expr{Kind: syntax.Num}
	return syntax.Print(it)
}

// isMade: are the conditions of a function to be made, others being known of an old
// text? They hang on its bytes, and on the heads of those that it calls.
func (k known) isMade(it item, old known) bool {
	if was, there := old.functions[it.tree.Name]; !there || was.text != it.text {
		return true
	}
	for _, name := range base.Calls(it.tree) {
		if old.functions[name].head != k.functions[name].head {
			return true
		}
	}
	return false
}
