package gen

import (
	"slices"

	"whetstone/big"
	"whetstone/formula"
	"whetstone/linear"
	"whetstone/syntax"
)

// Pred: a predicate, the names of numbers and truths having values.
func Pred(e syntax.Expr, nums []Named, truths []NamedF) formula.F {
	return meaning{nums, truths}.truth(e)
}

// meaning is what the names of a predicate stand for.
type meaning struct {
	nums   []Named
	truths []NamedF
}

// truth: the value of an expression that is a truth. Rows lean to the left as far as
// a text is long: first parts are gone down by a loop.
func (m meaning) truth(e syntax.Expr) formula.F {
	var rows []syntax.Expr // each is the first part of the one ahead of it
	for e.Kind == syntax.And || e.Kind == syntax.Or {
		rows = append(rows, e)
		e = partOf(e, 0)
	}
	f := m.truthAlone(e)
	for _, row := range slices.Backward(rows) {
		f = joined(row.Kind, f, m.truth(partOf(row, 1)))
	}
	return f
}

// truthAlone: that of an expression that is no And or Or.
func (m meaning) truthAlone(e syntax.Expr) formula.F {
	switch e.Kind {
	case syntax.True:
		return formula.Yes()
	case syntax.Var:
		return m.truthOf(e.Name)
	case syntax.Not:
		return formula.Neg(m.truth(partOf(e, 0)))
	case syntax.Eq, syntax.Ne, syntax.Lt, syntax.Le, syntax.Gt, syntax.Ge:
		return compared(e.Kind, m.number(partOf(e, 0)), m.number(partOf(e, 1)))
	}
	return formula.No()
}

// number: the value of an expression that is a number.
func (m meaning) number(e syntax.Expr) linear.Term {
	var rows []syntax.Expr
	for e.Kind == syntax.Add || e.Kind == syntax.Sub || e.Kind == syntax.Mul {
		rows = append(rows, e)
		e = partOf(e, 0)
	}
	t := m.numberAlone(e)
	for _, row := range slices.Backward(rows) {
		t = m.reckoned(row.Kind, t, m.number(partOf(row, 1)))
	}
	return t
}

// numberAlone: that of an expression that is no Add, Sub or Mul.
func (m meaning) numberAlone(e syntax.Expr) linear.Term {
	switch e.Kind {
	case syntax.Num:
		return linear.Of(e.Num)
	case syntax.Var:
		return m.numberOf(e.Name)
	case syntax.Neg:
		return negative(m.number(partOf(e, 0)))
	}
	return linear.Term{}
}

// reckoned: an Add, Sub or Mul of two sums. Where both hang on variables, which is
// in no predicate that is right, there is no such sum.
func (m meaning) reckoned(kind int, a, b linear.Term) linear.Term {
	if kind == syntax.Mul {
		t, _ := product(a, b)
		return t
	}
	return added(kind, a, b)
}

// truthOf, numberOf: what a name stands for, the last one of it.
func (m meaning) truthOf(name string) formula.F {
	for _, n := range slices.Backward(m.truths) {
		if n.Name == name {
			return n.F
		}
	}
	return formula.No()
}

func (m meaning) numberOf(name string) linear.Term {
	for _, n := range slices.Backward(m.nums) {
		if n.Name == name {
			return n.T
		}
	}
	return linear.Term{}
}

// partOf: a part of an expression. One that isn't there counts as the number 0, as it
// does in layer 9.
func partOf(e syntax.Expr, i int) syntax.Expr {
	if i < len(e.Args) {
		return e.Args[i]
	}
	return syntax.Expr{Kind: syntax.Num}
}

// joined: And or Or of two formulas.
func joined(kind int, a, b formula.F) formula.F {
	if kind == syntax.And {
		return formula.All(a, b)
	}
	return formula.Any(a, b)
}

// compared: two sums, held against each other.
func compared(kind int, a, b linear.Term) formula.F {
	switch kind {
	case syntax.Lt:
		return formula.LtF(a, b)
	case syntax.Le:
		return formula.LeF(a, b)
	case syntax.Gt:
		return formula.LtF(b, a)
	case syntax.Ge:
		return formula.LeF(b, a)
	case syntax.Ne:
		return formula.Neg(formula.EqF(a, b))
	}
	return formula.EqF(a, b)
}

// added: Add or Sub of two sums.
func added(kind int, a, b linear.Term) linear.Term {
	if kind == syntax.Sub {
		return linear.Sub(a, b)
	}
	return linear.Add(a, b)
}

func negative(t linear.Term) linear.Term { return linear.Scale(t, big.Of(-1)) }

// product: a sum so many times; false: both hang on variables.
func product(a, b linear.Term) (linear.Term, bool) {
	switch {
	case linear.IsConst(b):
		return linear.Scale(a, b.Const), true
	case linear.IsConst(a):
		return linear.Scale(b, a.Const), true
	}
	return linear.Term{}, false
}
