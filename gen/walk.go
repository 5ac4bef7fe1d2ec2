package gen

import (
	"slices"

	"whetstone/api"
	"whetstone/base"
	"whetstone/big"
	"whetstone/formula"
	"whetstone/linear"
	"whetstone/smt"
	"whetstone/syntax"
)

// value is what an expression is: a number (num), a truth (is) or an array.
type value struct {
	base   int // api.Int, Bool, Arr
	num    linear.Term
	is     formula.F
	array  int
	length big.Int
}

func numberValue(t linear.Term) value { return value{base: api.Int, num: t} }

func truthValue(f formula.F) value { return value{base: api.Bool, is: f} }

// bound is a name, and what it stands for.
type bound struct {
	name  string
	value value
}

// walker goes through a function, and notes its conditions.
type walker struct {
	table *base.Table
	fn    string
	names []bound // those that may be used
	// How many variables of numbers, truths and arrays were met.
	nums, truths, arrays int
	hyps                 []Hyp
	apps                 []smt.App
	conds                []Cons
}

// number, truth, newArray: a new one.
func (w *walker) number() value {
	w.nums++
	return numberValue(linear.Var(w.nums - 1))
}

func (w *walker) truth() value {
	w.truths++
	return truthValue(formula.Truth(w.truths - 1))
}

func (w *walker) newArray(length big.Int) value {
	w.arrays++
	return value{base: api.Arr, array: w.arrays - 1, length: length}
}

// fresh: a new one of a type.
func (w *walker) fresh(t syntax.Type) value {
	switch t.Base {
	case api.Bool:
		return w.truth()
	case api.Arr:
		return w.newArray(big.Of(int64(t.Len)))
	}
	return w.number()
}

// answered: a new variable that is what a function of layer 16 answers.
func (w *walker) answered(fn int, args ...linear.Term) value {
	v := w.nums
	w.apps = append(w.apps, smt.App{Fn: fn, Args: slices.Clone(args), Var: v})
	return w.number()
}

// standsFor: what a name stands for.
func (w *walker) standsFor(name string) value {
	for _, n := range slices.Backward(w.names) {
		if n.name == name {
			return n.value
		}
	}
	return value{}
}

// holds: a formula is so, whatever else is.
func holds(f formula.F) Hyp { return Hyp{If: formula.Yes(), F: f} }

// know: from here on a formula is so.
func (w *walker) know(f formula.F) { w.hyps = append(w.hyps, holds(f)) }

// learn: from here on what is said of a place is so.
func (w *walker) learn(h Hyp, some bool) {
	if some {
		w.hyps = append(w.hyps, h)
	}
}

// must: a condition, by all that is known so far. It gets lists of its own, since
// what is known is changed behind a branch.
func (w *walker) must(head Hyp, code int, at api.Span) {
	w.conds = append(w.conds, Cons{
		Fn: w.fn, Hyps: ownHyps(w.hyps), Head: head, Code: code, Span: at, Apps: ownApps(w.apps),
	})
}

func ownHyps(l []Hyp) []Hyp {
	l = slices.Clone(l)
	for i, h := range l {
		l[i].Use.Args = slices.Clone(h.Use.Args)
	}
	return l
}

func ownApps(l []smt.App) []smt.App {
	l = slices.Clone(l)
	for i, a := range l {
		l[i].Args = slices.Clone(a.Args)
	}
	return l
}

// named: a formula, or a truth that is so just where it is, so that what is made of
// it is small.
func (w *walker) named(f formula.F) formula.F {
	switch f.Kind {
	case formula.True, formula.False, formula.Bool:
		return f
	}
	b := w.truth().is
	w.know(formula.Iff(b, f))
	return b
}
