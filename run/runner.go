package run

import (
	"slices"

	"whetstone/api"
	"whetstone/base"
	"whetstone/syntax"
)

// runner does what functions do, or what a predicate says. What is begun stands in a
// list, not in calls of Go: functions call each other as deep as there are steps.
type runner struct {
	table  *base.Table
	inPred bool
	left   int    // steps
	open   []open // the expressions that are begun, each a part of the one ahead
	values []Val  // of the parts of these that are done
	names  []bound
	frames []frame // the functions that are begun, each called by the one ahead
}

// open is an expression that is begun, and how many of its parts are done.
type open struct {
	e    syntax.Expr
	done int
}

// bound is a name, and what it stands for.
type bound struct {
	name string
	v    Val
}

// frame is a function that is begun, and where its names begin.
type frame struct {
	fn   string
	from int
}

func (r *runner) frame() frame { return r.frames[len(r.frames)-1] }

// value: that of an expression.
func (r *runner) value(e syntax.Expr) Val {
	r.begin(e)
	for len(r.open) > 0 {
		if o := &r.open[len(r.open)-1]; o.done < parts(o.e) {
			e := r.next(*o)
			o.done++
			r.begin(e)
		} else {
			r.end(o.e)
		}
	}
	return r.values[0]
}

func (r *runner) begin(e syntax.Expr) {
	if r.inPred && !mayBePred(e.Kind) {
		r.odd()
	}
	r.take(1)
	r.open = append(r.open, open{e: e})
}

// end: the expression that was begun last has a value, in its parts' place.
func (r *runner) end(e syntax.Expr) {
	r.open = r.open[:len(r.open)-1]
	first := len(r.values) - parts(e)
	v := r.made(e, r.values[first:])
	r.values = append(r.values[:first], v)
}

// next: the part that is done next. Whatever hangs on the parts ahead of it is done
// first.
func (r *runner) next(o open) syntax.Expr {
	switch {
	case o.e.Kind == syntax.Call && o.done == len(o.e.Args):
		return r.enter(o.e.Name, r.values[len(r.values)-o.done:])
	case o.e.Kind == syntax.Let && o.done == 1:
		r.names = append(r.names, bound{o.e.Name, r.last()})
	case o.e.Kind == syntax.If && o.done == 1 && !r.last().B:
		return partOf(o.e, 2)
	case o.e.Kind == syntax.Assert && o.done == 1:
		r.must(r.last().B, api.CodeAssert, partOf(o.e, 0).Span)
	}
	return partOf(o.e, o.done)
}

// last: the value of the part that was done last.
func (r *runner) last() Val { return r.values[len(r.values)-1] }

// enter begins a function; its body is what is to be done.
func (r *runner) enter(name string, args []Val) syntax.Expr {
	i, there := r.table.Find(syntax.Fn, name)
	it, _ := r.table.Item(i)
	if !there || !slices.EqualFunc(it.Params, args, isOf) {
		r.odd()
	}
	r.frames = append(r.frames, frame{name, len(r.names)})
	for i, p := range it.Params {
		r.names = append(r.names, bound{p.Name, args[i]})
	}
	return it.Body
}

// leave ends the function that was begun last.
func (r *runner) leave() {
	r.names = r.names[:r.frame().from]
	r.frames = r.frames[:len(r.frames)-1]
}

// named: the value of a name.
func (r *runner) named(name string) Val {
	for _, n := range slices.Backward(r.names[r.frame().from:]) {
		if n.name == name {
			return n.v
		}
	}
	r.odd()
	return Val{}
}
