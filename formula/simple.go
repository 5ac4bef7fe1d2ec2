package formula

import (
	"whetstone/big"
	"whetstone/linear"
)

// Simple: the formula, made simpler: no true or false within, none of one kind within another of it, sums in their one form and divided.
func Simple(f F) F {
	switch f.Kind {
	case True:
		return Yes()
	case Bool:
		return Truth(f.Var)
	case Le:
		return simpleSum(f.T)
	case Not:
		return simpleNot(Simple(parts(f)[0]))
	case And, Or:
		return simpleRow(f)
	}
	return No()
}

// simpleSum: whole numbers times a divisor are 0 or less with a number beside them
// just if they are so by themselves with the number divided and rounded up.
func simpleSum(t linear.Term) F {
	if linear.IsConst(t) {
		return truth(big.Sign(t.Const) <= 0)
	}
	content := linear.Content(t)
	number, _ := big.Ceil(t.Const, content)
	out := linear.Of(number)
	for v, coef := range linear.Vars(t) {
		times, _, _ := big.DivMod(coef, content)
		out.Parts = append(out.Parts, linear.Part{Var: v, Coef: times})
	}
	return F{Kind: Le, T: out}
}

// simpleNot is Not of a formula that is simple.
func simpleNot(f F) F {
	switch f.Kind {
	case True, False:
		return truth(f.Kind == False)
	case Not:
		return f.Args[0]
	case Le:
		return simpleSum(opposite(f.T))
	}
	return Neg(f)
}

// simpleRow is Simple of And and Or.
func simpleRow(f F) F {
	row, open := gather(nil, f.Kind, f.Args)
	switch {
	case !open:
		return truth(f.Kind == Or)
	case len(row) == 0:
		return truth(f.Kind == And)
	case len(row) == 1:
		return row[0]
	}
	return F{Kind: f.Kind, Args: row}
}

// gather puts what is simple of an And's or Or's parts behind others; false: one
// of them says all. Parts of the same kind go into the same list at once, so that
// long chains aren't copied link by link.
func gather(row []F, kind int, args []F) ([]F, bool) {
	open := true
	for _, a := range args {
		if a.Kind == kind {
			if row, open = gather(row, kind, a.Args); !open {
				return nil, false
			}
			continue
		}
		switch s := Simple(a); s.Kind {
		case True, False:
			if (s.Kind == True) == (kind == Or) {
				return nil, false
			}
		case kind:
			row = append(row, s.Args...)
		default:
			row = append(row, s)
		}
	}
	return row, true
}
