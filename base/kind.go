package base

import (
	"slices"

	"whetstone/api"
	"whetstone/syntax"
)

var (
	number = Kind{Base: api.Int}
	truth  = Kind{Base: api.Bool}
)

// partOf: a part of an expression. One that isn't there counts as the number
// 0, as it does in layer 9.
func partOf(e syntax.Expr, i int) syntax.Expr {
	if i < len(e.Args) {
		return e.Args[i]
	}
	return syntax.Expr{Kind: syntax.Num}
}

// must: an expression is of a kind.
func (c *checker) must(e syntax.Expr, want Kind) {
	c.same(e, c.kind(e), want)
}

// same: an expression's kind, that is known, is the one that it must be.
func (c *checker) same(e syntax.Expr, k, want Kind) {
	if k != want {
		c.wrong(e.Span, api.ErrType)
	}
}

// kind: the kind of an expression.
func (c *checker) kind(e syntax.Expr) Kind {
	// Rows lean to the left as far as a text is long: first parts are gone down
	// by a loop.
	var rows []syntax.Expr // each is the first part of the one ahead of it
	for isRow(e.Kind) {
		c.allowed(e)
		rows = append(rows, e)
		e = partOf(e, 0)
	}
	k := c.kindAlone(e)
	for _, row := range slices.Backward(rows) {
		k = c.kindOfRow(row, k)
	}
	return k
}

// allowed: within a predicate it is what may be there.
func (c *checker) allowed(e syntax.Expr) {
	if !c.inPred {
		return
	}
	switch e.Kind {
	case syntax.Call, syntax.Div, syntax.Mod, syntax.Let, syntax.If, syntax.Assert,
		syntax.Get, syntax.Set, syntax.Len, syntax.Fill:
		c.wrong(e.Span, api.ErrPred)
	case syntax.Mul:
		// The second part first: the first one may be a long row.
		if !Constant(partOf(e, 1)) && !Constant(partOf(e, 0)) {
			c.wrong(e.Span, api.ErrPred)
		}
	}
}

func isRow(kind int) bool {
	_, whole := rowKinds(kind)
	return whole != Kind{}
}

// rowKinds: what the two parts of a row must be, and what it is itself. Parts
// of no kind: what the first one is; a whole of no kind: it is no row.
func rowKinds(kind int) (part, whole Kind) {
	switch kind {
	case syntax.Add, syntax.Sub, syntax.Mul, syntax.Div, syntax.Mod:
		return number, number
	case syntax.Lt, syntax.Le, syntax.Gt, syntax.Ge:
		return number, truth
	case syntax.And, syntax.Or:
		return truth, truth
	case syntax.Eq, syntax.Ne:
		return Kind{}, truth
	}
	return Kind{}, Kind{}
}

// kindOfRow: that of a row whose first part's kind is known.
func (c *checker) kindOfRow(e syntax.Expr, first Kind) Kind {
	part, whole := rowKinds(e.Kind)
	if part == (Kind{}) {
		c.mayCompare(e, first)
		part = first
	}
	c.same(partOf(e, 0), first, part)
	c.must(partOf(e, 1), part)
	return whole
}

// mayCompare: what a first part is may be held against another one.
func (c *checker) mayCompare(e syntax.Expr, first Kind) {
	switch {
	case first.Base == api.Arr:
		c.wrong(partOf(e, 0).Span, api.ErrType)
	case first == truth && c.inPred:
		c.wrong(e.Span, api.ErrPred)
	}
}

// kindAlone: the kind of an expression that is no row.
func (c *checker) kindAlone(e syntax.Expr) Kind {
	c.allowed(e)
	switch e.Kind {
	case syntax.True, syntax.False:
		return truth
	case syntax.Var:
		return c.kindOfName(e)
	case syntax.Call:
		return c.kindOfCall(e)
	case syntax.Not:
		c.must(partOf(e, 0), truth)
		return truth
	case syntax.Neg:
		c.must(partOf(e, 0), number)
	case syntax.Let:
		return c.kindOfLet(e)
	case syntax.If:
		c.must(partOf(e, 0), truth)
		k := c.kind(partOf(e, 1))
		c.must(partOf(e, 2), k)
		return k
	case syntax.Assert:
		c.must(partOf(e, 0), truth)
		return c.kind(partOf(e, 1))
	case syntax.Get:
		c.array(e)
		c.must(partOf(e, 1), number)
	case syntax.Set:
		k := c.array(e)
		c.must(partOf(e, 1), number)
		c.must(partOf(e, 2), number)
		return k
	case syntax.Len:
		c.array(e)
	case syntax.Fill:
		c.must(partOf(e, 0), number)
		return Kind{Base: api.Arr, Len: places(e)}
	}
	return number
}

func (c *checker) kindOfName(e syntax.Expr) Kind {
	k, there := c.named(e.Name)
	if !there {
		c.wrong(e.Span, api.ErrName)
	}
	if k.Base == api.Arr && c.inPred {
		c.wrong(e.Span, api.ErrPred)
	}
	return k
}

func (c *checker) kindOfCall(e syntax.Expr) Kind {
	i, there := c.table.Find(syntax.Fn, e.Name)
	if !there {
		c.wrong(e.Span, api.ErrName)
	}
	head, _ := c.table.Item(i)
	if len(e.Args) != len(head.Params) {
		c.wrong(e.Span, api.ErrArgs)
	}
	for n, p := range head.Params {
		c.must(e.Args[n], KindOf(p.Type))
	}
	return KindOf(head.Result)
}

func (c *checker) kindOfLet(e syntax.Expr) Kind {
	k := c.kind(partOf(e, 0))
	if _, there := c.named(e.Name); there {
		c.wrong(e.Span, api.ErrTwice)
	}
	c.push(e.Name, k)
	k = c.kind(partOf(e, 1))
	c.pop()
	return k
}

// array: an expression's first part is an array, of this kind.
func (c *checker) array(e syntax.Expr) Kind {
	part := partOf(e, 0)
	k := c.kind(part)
	if k.Base != api.Arr {
		c.wrong(part.Span, api.ErrType)
	}
	return k
}

// places: how many a Fill makes. Parse lets none have more than a limb holds.
func places(e syntax.Expr) int {
	if len(e.Num.Mag) == 0 {
		return 0
	}
	return int(e.Num.Mag[0])
}
