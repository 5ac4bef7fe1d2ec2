package formula

import "whetstone/linear"

// Nnf: the formula with Not just ahead of truths.
func Nnf(f F) F { return nnf(f, true) }

// nnf is a formula, or what isn't so where it is.
func nnf(f F, so bool) F {
	switch f.Kind {
	case True:
		return truth(so)
	case Bool:
		if so {
			return Truth(f.Var)
		}
		return Neg(Truth(f.Var))
	case Le:
		if so {
			return F{Kind: Le, T: f.T}
		}
		return Below(opposite(f.T))
	case Not:
		return nnf(parts(f)[0], !so)
	case And, Or:
		return nnfRow(f, so)
	}
	return truth(!so)
}

func nnfRow(f F, so bool) F {
	args := make([]F, 0, len(f.Args))
	for _, a := range f.Args {
		args = append(args, nnf(a, so))
	}
	kind := And
	if (f.Kind == And) != so {
		kind = Or
	}
	return F{Kind: kind, Args: args}
}

// Subst: the formula, a sum being in the place of a number's variable.
func Subst(f F, v int, by linear.Term) F {
	return changed(f, func(a F) F {
		if a.Kind == Le {
			a.T = linear.Subst(a.T, v, by)
		}
		return a
	})
}

// SubstBool: the formula, another one being in the place of a truth.
func SubstBool(f F, v int, by F) F {
	return changed(f, func(a F) F {
		if a.Kind == Bool && a.Var == v {
			return by
		}
		return a
	})
}

// changed is a formula with others in the places of its truths and sums.
func changed(f F, change func(a F) F) F {
	switch f.Kind {
	case True:
		return Yes()
	case Bool:
		return change(Truth(f.Var))
	case Le:
		return change(F{Kind: Le, T: f.T})
	case Not, And, Or:
		args := make([]F, 0, len(f.Args))
		for _, a := range parts(f) {
			args = append(args, changed(a, change))
		}
		return F{Kind: f.Kind, Args: args}
	}
	return No()
}
