package gen_test

import (
	"testing"

	"whetstone/api"
	"whetstone/base"
	"whetstone/big"
	"whetstone/formula"
	"whetstone/gen"
	"whetstone/linear"
	"whetstone/smt"
	"whetstone/syntax"
)

// judge reads a function's conditions off the chapter's words in another way: it
// notes once what becomes known, and in which branches, and works out at each
// condition what is known there and for which case.
type judge struct {
	table                *base.Table
	fn                   string
	nums, truths, arrays int
	notes                []note
	apps                 []smt.App
	in                   []branch // those that it is in
	branches             int
	out                  []gen.Cons
}

// branch is one of an If: when it counts.
type branch struct {
	id int
	c  form
}

// note is what became known, and where; of a case it is known there alone.
type note struct {
	hyp   gen.Hyp
	in    []branch
	aCase bool
}

// thing is a value: a sum, a formula, or an array.
type thing struct {
	base   int
	n      term
	f      form
	number int
	length int64
}

type scope map[string]thing

func (s scope) with(name string, v thing) scope {
	out := scope{name: v}
	for k, old := range s {
		if k != name {
			out[k] = old
		}
	}
	return out
}

func judged(table *base.Table, i int) []gen.Cons {
	it, _ := table.Item(i)
	j := &judge{table: table, fn: it.Name}
	names := scope{}
	var values []thing
	for pos, p := range it.Params {
		values = append(values, j.one(base.KindOf(p.Type)))
		j.learn(j.saidOf(it, pos, values))
		names = names.with(p.Name, values[pos])
	}
	v := j.of(it.Body, names)
	j.must(j.saidOf(it, gen.Result, append(values, v)), api.CodeResult, it.Body.Span)
	return j.out
}

func (j *judge) one(k kind) thing {
	switch k.Base {
	case api.Int:
		j.nums++
		return thing{base: api.Int, n: linear.Var(j.nums - 1)}
	case api.Bool:
		j.truths++
		return thing{base: api.Bool, f: formula.Truth(j.truths - 1)}
	}
	j.arrays++
	return thing{base: api.Arr, number: j.arrays - 1, length: int64(k.Len)}
}

// saidOf: what is said of a place, none or one; the place's value is the last of them.
func (j *judge) saidOf(it item, pos int, values []thing) []gen.Hyp {
	last := len(values) - 1
	typ := it.Result
	if pos >= 0 {
		typ = it.Params[pos].Type
	}
	names := scope{"v": values[last]}
	args := []term{values[last].n}
	for i, v := range values[:last] {
		names[it.Params[i].Name] = v
		if it.Params[i].Type.Base == api.Int {
			args = append(args, v.n)
		}
	}
	if len(typ.Pred) == 1 {
		alone := &judge{}
		return []gen.Hyp{{If: formula.Yes(), F: alone.of(typ.Pred[0], names).f}}
	}
	if it.Pub || typ.Base != api.Int {
		return nil
	}
	return []gen.Hyp{{If: formula.Yes(), IsK: true, Use: gen.Use{K: gen.Kap{Fn: it.Name, Pos: pos}, Args: args}}}
}

func (j *judge) learn(l []gen.Hyp) {
	for _, h := range l {
		j.notes = append(j.notes, note{hyp: h, in: append([]branch{}, j.in...)})
	}
}

func (j *judge) know(f form) { j.learn([]gen.Hyp{{If: formula.Yes(), F: f}}) }

// must: a condition, if there is anything that must be.
func (j *judge) must(l []gen.Hyp, code int, at api.Span) {
	for _, h := range l {
		c := gen.Cons{Fn: j.fn, Head: h, Code: code, Span: at, Apps: append([]smt.App{}, j.apps...)}
		for _, n := range j.notes {
			if h, known := n.seen(j.in); known {
				c.Hyps = append(c.Hyps, h)
			}
		}
		j.out = append(j.out, c)
	}
}

// seen: what a note says in branches: for the cases of those that it is in and they
// aren't, the outermost outside.
func (n note) seen(here []branch) (gen.Hyp, bool) {
	common := 0
	for common < min(len(n.in), len(here)) && n.in[common].id == here[common].id {
		common++
	}
	h := n.hyp
	if n.aCase {
		return h, common == len(n.in)
	}
	for k := len(n.in) - 1; k >= common; k-- {
		h.If = formula.All(n.in[k].c, h.If)
	}
	return h, true
}

func (j *judge) name(f form) form {
	if f.Kind == formula.True || f.Kind == formula.False || f.Kind == formula.Bool {
		return f
	}
	b := j.one(truth).f
	j.know(formula.Iff(b, f))
	return b
}

func (j *judge) app(fn int, args ...term) thing {
	v := j.one(number)
	j.apps = append(j.apps, smt.App{Fn: fn, Args: args, Var: j.nums - 1})
	return v
}

func (j *judge) of(e expr, names scope) thing {
	sure := func(f form) []gen.Hyp { return []gen.Hyp{{If: formula.Yes(), F: f}} }
	part := func(i int) thing { return j.of(e.Args[i], names) }
	zero := num(0)
	switch e.Kind {
	case syntax.Num:
		return thing{base: api.Int, n: linear.Of(e.Num)}
	case syntax.True:
		return thing{base: api.Bool, f: formula.Yes()}
	case syntax.False:
		return thing{base: api.Bool, f: formula.No()}
	case syntax.Var:
		return names[e.Name]
	case syntax.Neg:
		return thing{base: api.Int, n: linear.Sub(zero, part(0).n)}
	case syntax.Add:
		a, b := part(0), part(1)
		return thing{base: api.Int, n: linear.Add(a.n, b.n)}
	case syntax.Sub:
		a, b := part(0), part(1)
		return thing{base: api.Int, n: linear.Sub(a.n, b.n)}
	case syntax.Mul:
		a, b := part(0), part(1)
		if linear.IsConst(b.n) {
			return thing{base: api.Int, n: linear.Scale(a.n, b.n.Const)}
		}
		if linear.IsConst(a.n) {
			return thing{base: api.Int, n: linear.Scale(b.n, a.n.Const)}
		}
		return j.app(1, a.n, b.n)
	case syntax.Div, syntax.Mod:
		a, b := part(0), part(1)
		if linear.Equal(b.n, zero) || !linear.IsConst(b.n) {
			j.must(sure(formula.Neg(formula.EqF(b.n, zero))), api.CodeZero, e.Span)
			return j.app(2+e.Kind-syntax.Div, a.n, b.n)
		}
		q := j.one(number)
		r := linear.Sub(a.n, linear.Scale(q.n, b.n.Const))
		j.know(formula.All(formula.LeF(zero, r), formula.LtF(r, linear.Of(big.Abs(b.n.Const)))))
		if e.Kind == syntax.Div {
			return q
		}
		return thing{base: api.Int, n: r}
	case syntax.Lt:
		a, b := part(0), part(1)
		return thing{base: api.Bool, f: formula.LtF(a.n, b.n)}
	case syntax.Le:
		a, b := part(0), part(1)
		return thing{base: api.Bool, f: formula.LeF(a.n, b.n)}
	case syntax.Gt:
		a, b := part(0), part(1)
		return thing{base: api.Bool, f: formula.LtF(b.n, a.n)}
	case syntax.Ge:
		a, b := part(0), part(1)
		return thing{base: api.Bool, f: formula.LeF(b.n, a.n)}
	case syntax.Eq, syntax.Ne:
		var f form
		if a := part(0); a.base == api.Bool {
			x := j.name(a.f)
			y := j.name(part(1).f)
			f = formula.Iff(x, y)
		} else {
			f = formula.EqF(a.n, part(1).n)
		}
		if e.Kind == syntax.Ne {
			f = formula.Neg(f)
		}
		return thing{base: api.Bool, f: f}
	case syntax.Not:
		return thing{base: api.Bool, f: formula.Neg(part(0).f)}
	case syntax.And:
		a, b := part(0), part(1)
		return thing{base: api.Bool, f: formula.All(a.f, b.f)}
	case syntax.Or:
		a, b := part(0), part(1)
		return thing{base: api.Bool, f: formula.Any(a.f, b.f)}
	case syntax.Let:
		v := part(0)
		if v.base == api.Bool {
			v.f = j.name(v.f)
		}
		return j.of(e.Args[1], names.with(e.Name, v))
	case syntax.If:
		return j.ofIf(e, names)
	case syntax.Assert:
		f := part(0).f
		j.must(sure(f), api.CodeAssert, e.Args[0].Span)
		j.know(f)
		return part(1)
	case syntax.Call:
		return j.ofCall(e, names)
	case syntax.Len:
		return thing{base: api.Int, n: num(part(0).length)}
	case syntax.Fill:
		part(0)
		long, _ := big.Small(e.Num)
		return j.one(kind{Base: api.Arr, Len: int(long)})
	}
	a, i := part(0), part(1)
	if e.Kind == syntax.Set {
		part(2)
	}
	in := formula.All(formula.LeF(zero, i.n), formula.LtF(i.n, num(a.length)))
	j.must(sure(in), api.CodeBound, e.Span)
	if e.Kind == syntax.Set {
		return j.one(kind{Base: api.Arr, Len: int(a.length)})
	}
	return j.app(10+a.number, i.n)
}

func (j *judge) ofIf(e expr, names scope) thing {
	c := j.name(j.of(e.Args[0], names).f)
	cases := []form{c, formula.Neg(c)}
	var values []thing
	for n, c := range cases {
		j.branches++
		j.in = append(j.in, branch{j.branches, c})
		j.notes = append(j.notes, note{gen.Hyp{If: formula.Yes(), F: c}, append([]branch{}, j.in...), true})
		values = append(values, j.of(e.Args[n+1], names))
		j.in = j.in[:len(j.in)-1]
	}
	switch values[0].base {
	case api.Bool:
		return thing{base: api.Bool, f: formula.Any(formula.All(c, values[0].f), formula.All(cases[1], values[1].f))}
	case api.Arr:
		return j.one(kind{Base: api.Arr, Len: int(values[0].length)})
	}
	r := j.one(number)
	for n, c := range cases {
		j.know(formula.If(c, formula.EqF(r.n, values[n].n)))
	}
	return r
}

func (j *judge) ofCall(e expr, names scope) thing {
	i, _ := j.table.Find(syntax.Fn, e.Name)
	it, _ := j.table.Item(i)
	var values []thing
	for _, a := range e.Args {
		values = append(values, j.of(a, names))
	}
	for pos := range values {
		j.must(j.saidOf(it, pos, values[:pos+1:pos+1]), api.CodeCall, e.Args[pos].Span)
	}
	v := j.one(base.KindOf(it.Result))
	j.learn(j.saidOf(it, gen.Result, append(values, v)))
	return v
}

// TestDrawn: the conditions of drawn functions are those that the judge tells.
func TestDrawn(t *testing.T) {
	count := 0
	for seed := range int64(3000) {
		m := newMaker(seed)
		m.sums = seed%5 == 0
		s := m.text()
		table := rightTable(t, s)
		for i := range table.Count() {
			got, want := gen.Function(table, i), judged(table, i)
			if d := difference(got, want); d != "" {
				t.Fatalf("item %d of %s\n%s", i, s, d)
			}
			count += len(got)
		}
	}
	if count < 15000 {
		t.Error("few conditions were drawn:", count)
	}
}
