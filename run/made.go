package run

import (
	"slices"

	"whetstone/api"
	"whetstone/big"
	"whetstone/syntax"
)

// partOf: a part of an expression. One that isn't there counts as the number 0, as it
// does in layer 9.
func partOf(e syntax.Expr, i int) syntax.Expr {
	if i < len(e.Args) {
		return e.Args[i]
	}
	return syntax.Expr{Kind: syntax.Num}
}

// parts: how many parts of an expression are done, one of an If's branches, and behind
// a call's arguments the body of what it calls.
func parts(e syntax.Expr) int {
	switch e.Kind {
	case syntax.Neg, syntax.Not, syntax.Len, syntax.Fill:
		return 1
	case syntax.Let, syntax.If, syntax.Assert, syntax.Get:
		return 2
	case syntax.Set:
		return 3
	case syntax.Call:
		return len(e.Args) + 1
	}
	if isRow(e.Kind) {
		return 2
	}
	return 0
}

func isRow(kind int) bool { return syntax.Add <= kind && kind <= syntax.Or }

// mayBePred: may an expression be within a predicate?
func mayBePred(kind int) bool {
	switch kind {
	case syntax.Num, syntax.True, syntax.False, syntax.Var, syntax.Neg, syntax.Not:
		return true
	case syntax.Div, syntax.Mod:
		return false
	}
	return isRow(kind)
}

// made: the value of an expression, of its parts' values.
func (r *runner) made(e syntax.Expr, l []Val) Val {
	switch e.Kind {
	case syntax.Num:
		return Num(e.Num)
	case syntax.True, syntax.False:
		return Truth(e.Kind == syntax.True)
	case syntax.Var:
		return r.named(e.Name)
	case syntax.Neg:
		return number(big.Neg(l[0].N))
	case syntax.Not:
		return Truth(!l[0].B)
	case syntax.Call:
		r.leave()
		return l[len(l)-1]
	case syntax.Let:
		r.names = r.names[:len(r.names)-1]
		return l[1]
	case syntax.If, syntax.Assert:
		return l[1]
	case syntax.Get, syntax.Set:
		return r.at(e, l)
	case syntax.Len:
		return number(big.Of(int64(len(l[0].L))))
	case syntax.Fill:
		return r.fill(e.Num, l[0].N)
	}
	if isRow(e.Kind) {
		return r.ofRow(e, l[0], l[1])
	}
	return number(big.Int{})
}

// ofRow: the value of a row of two parts.
func (r *runner) ofRow(e syntax.Expr, a, b Val) Val {
	switch e.Kind {
	case syntax.Add:
		return number(big.Add(a.N, b.N))
	case syntax.Sub:
		return number(big.Sub(a.N, b.N))
	case syntax.Mul:
		r.take(len(a.N.Mag) + len(b.N.Mag))
		return number(big.Mul(a.N, b.N))
	case syntax.Div, syntax.Mod:
		return r.divided(e, a.N, b.N)
	case syntax.And:
		return Truth(a.B && b.B)
	case syntax.Or:
		return Truth(a.B || b.B)
	case syntax.Eq:
		return Truth(Equal(a, b))
	case syntax.Ne:
		return Truth(!Equal(a, b))
	}
	return Truth(compared(e.Kind, big.Cmp(a.N, b.N)))
}

// compared: is it so of two numbers that stand in this order?
func compared(kind, order int) bool {
	switch kind {
	case syntax.Lt:
		return order < 0
	case syntax.Le:
		return order <= 0
	case syntax.Gt:
		return order > 0
	}
	return order >= 0
}

func (r *runner) divided(e syntax.Expr, a, b big.Int) Val {
	q, rest, fault := big.DivMod(a, b)
	r.must(fault == api.OK, api.CodeZero, e.Span)
	if e.Kind == syntax.Div {
		return number(q)
	}
	return number(rest)
}

// fill: an array that has a number at so many places.
func (r *runner) fill(count, n big.Int) Val {
	many, small := big.Small(count)
	if !small || many > int64(r.left) {
		r.tire()
	}
	many = max(many, 0)
	r.take(int(many))
	return Val{Base: api.Arr, L: slices.Repeat([]big.Int{n}, int(many))}
}

// at: Get or Set of an array's place.
func (r *runner) at(e syntax.Expr, l []Val) Val {
	places := l[0].L
	i, small := big.Small(l[1].N)
	r.must(small && 0 <= i && i < int64(len(places)), api.CodeBound, e.Span)
	if e.Kind == syntax.Get {
		return number(places[i])
	}
	r.take(len(places))
	places = slices.Clone(places)
	places[i] = l[2].N
	return Val{Base: api.Arr, L: places}
}
