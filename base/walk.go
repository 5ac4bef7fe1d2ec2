package base

import (
	"slices"

	"whetstone/syntax"
)

// Constant: is it a number that hangs on no name?
func Constant(e syntax.Expr) bool {
	// Rows lean to the left as far as a text is long: first parts are gone down
	// by a loop. The others come first, so that a row of which the last part is
	// no constant isn't gone through.
	for {
		switch e.Kind {
		case syntax.Num:
			return true
		case syntax.Neg, syntax.Add, syntax.Sub, syntax.Mul:
		default:
			return false
		}
		if len(e.Args) == 0 {
			return true
		}
		for _, part := range e.Args[1:] {
			if !Constant(part) {
				return false
			}
		}
		e = e.Args[0]
	}
}

// Calls: the functions that an item calls, each once, in the order in which they are named first.
func Calls(it syntax.Item) []string {
	var names []string
	met := map[string]struct{}{}
	ahead := []syntax.Expr{it.Body} // what isn't gone through yet, the next one last
	for len(ahead) > 0 {
		e := ahead[len(ahead)-1]
		ahead = ahead[:len(ahead)-1]
		if _, again := met[e.Name]; e.Kind == syntax.Call && !again {
			met[e.Name] = struct{}{}
			names = append(names, e.Name)
		}
		for _, part := range slices.Backward(e.Args) {
			ahead = append(ahead, part)
		}
	}
	return names
}
