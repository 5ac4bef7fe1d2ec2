package check

import (
	"cmp"
	"slices"
	"strings"

	"whetstone/api"
	"whetstone/base"
	"whetstone/gen"
	"whetstone/horn"
	"whetstone/syntax"
)

// Head: a function's head, with the predicates that were found.
func Head(t *base.Table, it syntax.Item, sol horn.Sol) string {
	if it.Kind != syntax.Fn {
		return ""
	}
	open := gen.Opens(it)
	typeText := func(pos int, typ syntax.Type, ahead []syntax.Param) string {
		k := gen.Kap{Fn: it.Name, Pos: pos}
		if slices.Contains(open, k) {
			typ.Pred = found(t, sol[k], ahead)
		}
		return syntax.ShowType(typ)
	}
	var params []string
	for pos, p := range it.Params {
		params = append(params, p.Name+": "+typeText(pos, p.Type, it.Params[:pos]))
	}
	result := typeText(gen.Result, it.Result, it.Params)
	return it.Name + "(" + strings.Join(params, ", ") + ") -> " + result
}

// found: the predicate that was found for a place, or none, as a type has it.
func found(t *base.Table, l []horn.Inst, ahead []syntax.Param) []syntax.Expr {
	var names []string
	for _, p := range ahead {
		if p.Type.Base == api.Int {
			names = append(names, p.Name)
		}
	}
	var pred []syntax.Expr
	for _, x := range inOrder(l) {
		e, fits := predicate(t, x, names)
		switch {
		case !fits:
		case len(pred) == 0:
			pred = []syntax.Expr{e}
		default:
			pred = []syntax.Expr{{Kind: syntax.And, Args: []syntax.Expr{pred[0], e}}}
		}
	}
	return pred
}

// inOrder: qualifiers for a place in the order in which they are tried.
func inOrder(l []horn.Inst) []horn.Inst {
	l = slices.Clone(l)
	slices.SortStableFunc(l, func(a, b horn.Inst) int {
		return cmp.Or(cmp.Compare(a.Qual, b.Qual), slices.Compare(a.At, b.At))
	})
	return l
}

// predicate: a qualifier's predicate of v and of the numbers of these names; false:
// there is no such qualifier, or it doesn't fit, so that it says nothing.
func predicate(t *base.Table, x horn.Inst, names []string) (syntax.Expr, bool) {
	q, there := t.Qual(x.Qual)
	if !there || len(x.At) != len(q.Params)-1 {
		return syntax.Expr{}, false
	}
	by := map[string]int{} // places of what parameters stand for, by their names
	stands := []string{"v"}
	by[q.Params[0].Name] = 0
	for i, at := range x.At {
		if at < 0 || at >= len(names) {
			return syntax.Expr{}, false
		}
		by[q.Params[i+1].Name] = len(stands)
		stands = append(stands, names[at])
	}
	return renamed(q.Body, by, stands), true
}

// renamed: an expression whose names stand for others.
func renamed(e syntax.Expr, by map[string]int, stands []string) syntax.Expr {
	// Rows lean to the left as far as a text is long: first parts are gone down by a
	// loop.
	for at := &e; ; at = &at.Args[0] {
		if i, there := by[at.Name]; at.Kind == syntax.Var && there {
			at.Name = stands[i]
		}
		if len(at.Args) == 0 {
			return e
		}
		at.Args = slices.Clone(at.Args)
		others := at.Args[1:]
		for i, part := range others {
			others[i] = renamed(part, by, stands)
		}
	}
}
