package gen

import (
	"slices"

	"whetstone/api"
	"whetstone/big"
	"whetstone/formula"
	"whetstone/linear"
	"whetstone/syntax"
)

// Functions of layer 16. What an array has at its places is a function of its own,
// from placesOf on.
const (
	productOf   = 1
	quotientOf  = 2
	remainderOf = 3
	placesOf    = 10
)

// value: that of an expression. Rows lean to the left as far as a text is long: first
// parts are gone down by a loop.
func (w *walker) value(e syntax.Expr) value {
	var rows []syntax.Expr // each is the first part of the one ahead of it
	for isRow(e.Kind) {
		rows = append(rows, e)
		e = partOf(e, 0)
	}
	v := w.alone(e)
	for _, row := range slices.Backward(rows) {
		v = w.ofRow(row, v)
	}
	return v
}

// part: the value of an expression's part.
func (w *walker) part(e syntax.Expr, i int) value { return w.value(partOf(e, i)) }

func isRow(kind int) bool { return syntax.Add <= kind && kind <= syntax.Or }

// ofRow: the value of a row, by that of its first part.
func (w *walker) ofRow(e syntax.Expr, a value) value {
	if a.base == api.Bool && (e.Kind == syntax.Eq || e.Kind == syntax.Ne) {
		return truthValue(w.sameTruths(e, a.is))
	}
	b := w.part(e, 1)
	switch e.Kind {
	case syntax.And, syntax.Or:
		return truthValue(joined(e.Kind, a.is, b.is))
	case syntax.Add, syntax.Sub:
		return numberValue(added(e.Kind, a.num, b.num))
	case syntax.Mul:
		return w.times(a.num, b.num)
	case syntax.Div, syntax.Mod:
		return w.divided(e, a.num, b.num)
	}
	return truthValue(compared(e.Kind, a.num, b.num))
}

// sameTruths: Eq or Ne of truths. Each is named ahead of what comes behind it.
func (w *walker) sameTruths(e syntax.Expr, first formula.F) formula.F {
	a := w.named(first)
	b := w.named(w.part(e, 1).is)
	if e.Kind == syntax.Ne {
		return formula.Neg(formula.Iff(a, b))
	}
	return formula.Iff(a, b)
}

func (w *walker) times(a, b linear.Term) value {
	if t, sum := product(a, b); sum {
		return numberValue(t)
	}
	return w.answered(productOf, a, b)
}

// divided: Div or Mod. By a number it is told by sums; else layer 16 knows of it no
// more than that it is a function.
func (w *walker) divided(e syntax.Expr, a, b linear.Term) value {
	if linear.IsConst(b) && big.Sign(b.Const) != 0 {
		return w.dividedBy(e.Kind, a, b.Const)
	}
	w.must(holds(formula.Neg(formula.EqF(b, linear.Term{}))), api.CodeZero, e.Span)
	if e.Kind == syntax.Div {
		return w.answered(quotientOf, a, b)
	}
	return w.answered(remainderOf, a, b)
}

func (w *walker) dividedBy(kind int, a linear.Term, b big.Int) value {
	q := w.number()
	r := linear.Sub(a, linear.Scale(q.num, b))
	w.know(within(r, big.Abs(b)))
	if kind == syntax.Div {
		return q
	}
	return numberValue(r)
}

// within: a sum is 0 or more, and below a number.
func within(t linear.Term, n big.Int) formula.F {
	return formula.All(formula.LeF(linear.Term{}, t), formula.LtF(t, linear.Of(n)))
}

// alone: the value of an expression that is no row.
func (w *walker) alone(e syntax.Expr) value {
	switch e.Kind {
	case syntax.Num:
		return numberValue(linear.Of(e.Num))
	case syntax.True:
		return truthValue(formula.Yes())
	case syntax.False:
		return truthValue(formula.No())
	case syntax.Var:
		return w.standsFor(e.Name)
	case syntax.Neg:
		return numberValue(negative(w.part(e, 0).num))
	case syntax.Not:
		return truthValue(formula.Neg(w.part(e, 0).is))
	case syntax.Call:
		return w.call(e)
	case syntax.Let:
		return w.let(e)
	case syntax.If:
		return w.choice(e)
	case syntax.Assert:
		return w.assert(e)
	case syntax.Get, syntax.Set:
		return w.at(e)
	case syntax.Len:
		return numberValue(linear.Of(w.part(e, 0).length))
	case syntax.Fill:
		w.part(e, 0)
		return w.newArray(big.Norm(e.Num))
	}
	return value{}
}

func (w *walker) let(e syntax.Expr) value {
	v := w.part(e, 0)
	if v.base == api.Bool {
		v.is = w.named(v.is)
	}
	n := len(w.names)
	w.names = append(w.names, bound{e.Name, v})
	v = w.part(e, 1)
	w.names = w.names[:n]
	return v
}

func (w *walker) assert(e syntax.Expr) value {
	f := w.part(e, 0).is
	w.must(holds(f), api.CodeAssert, partOf(e, 0).Span)
	w.know(f)
	return w.part(e, 1)
}

// choice: If.
func (w *walker) choice(e syntax.Expr) value {
	c := w.named(w.part(e, 0).is)
	not := formula.Neg(c)
	a := w.branch(c, partOf(e, 1))
	b := w.branch(not, partOf(e, 2))
	switch a.base {
	case api.Bool:
		return truthValue(formula.Any(formula.All(c, a.is), formula.All(not, b.is)))
	case api.Arr:
		return w.newArray(a.length)
	}
	r := w.number()
	w.know(formula.If(c, formula.EqF(r.num, a.num)))
	w.know(formula.If(not, formula.EqF(r.num, b.num)))
	return r
}

// branch: the value of an expression that counts only where c is so. What is known of
// it is known behind it only for that case.
func (w *walker) branch(c formula.F, e syntax.Expr) value {
	first := len(w.hyps)
	w.know(c)
	v := w.value(e)
	w.hyps = slices.Delete(w.hyps, first, first+1)
	for i := first; i < len(w.hyps); i++ {
		w.hyps[i].If = formula.All(c, w.hyps[i].If)
	}
	return v
}

func (w *walker) call(e syntax.Expr) value {
	i, there := w.table.Find(syntax.Fn, e.Name)
	if !there {
		return value{}
	}
	it, _ := w.table.Item(i)
	var args []bound
	for pos, p := range it.Params {
		args = append(args, bound{p.Name, w.part(e, pos)})
	}
	for pos, arg := range args {
		if h, some := said(it, pos, arg.value, args[:pos]); some {
			w.must(h, api.CodeCall, partOf(e, pos).Span)
		}
	}
	v := w.fresh(it.Result)
	w.learn(said(it, Result, v, args))
	return v
}

// at: Get or Set of an array's place.
func (w *walker) at(e syntax.Expr) value {
	a, i := w.part(e, 0), w.part(e, 1)
	if e.Kind == syntax.Set {
		w.part(e, 2)
	}
	w.must(holds(within(i.num, a.length)), api.CodeBound, e.Span)
	if e.Kind == syntax.Set {
		return w.newArray(a.length)
	}
	return w.answered(placesOf+a.array, i.num)
}
