package gen_test

import (
	"slices"
	"testing"

	"whetstone/api"
	"whetstone/base"
	"whetstone/big"
	"whetstone/formula"
	"whetstone/gen"
	"whetstone/linear"
	"whetstone/smt"
	"whetstone/syntax"
)

// datum is a value in a run.
type datum struct {
	n big.Int
	b bool
	l []big.Int
}

// spot is where something must hold.
type spot struct {
	code int
	at   api.Span
}

// runner does what a function does, and notes of each spot of it that it comes to
// whether what must hold there does. What goes wrong ends it.
type runner struct {
	table *base.Table
	steps int
	deep  int
	spots map[spot]bool
}

// over ends a run.
type over struct{}

// run is what a function does: of each spot that is come to whether it is as it must
// be, and its value; false: the run is ended by something else.
func run(table *base.Table, it item, args []datum) (spots map[spot]bool, v datum, done bool) {
	r := &runner{table: table, steps: 2000, spots: map[spot]bool{}}
	defer func() {
		if x := recover(); x != nil {
			_ = x.(over)
			spots, done = r.spots, false
		}
	}()
	names := map[string]datum{}
	for i, p := range it.Params {
		names[p.Name] = args[i]
	}
	v = r.of(it.Body, names)
	r.typed(it.Result, v, names, spot{api.CodeResult, it.Body.Span})
	return r.spots, v, true
}

// must: what must hold at a spot does, or the run is over.
func (r *runner) must(so bool, s spot) {
	if r.deep == 0 {
		r.spots[s] = so
	}
	if !so {
		panic(over{})
	}
}

// typed: a value is as its type says.
func (r *runner) typed(t syntax.Type, v datum, names map[string]datum, s spot) {
	if len(t.Pred) > 0 {
		r.must(r.fits(t, v, names), s)
	}
}

func (r *runner) fits(t syntax.Type, v datum, names map[string]datum) bool {
	if len(t.Pred) == 0 {
		return true
	}
	with := map[string]datum{"v": v}
	for name, other := range names {
		with[name] = other
	}
	return r.of(t.Pred[0], with).b
}

func (r *runner) of(e expr, names map[string]datum) datum {
	if r.steps--; r.steps < 0 {
		panic(over{})
	}
	switch e.Kind {
	case syntax.Num:
		return datum{n: e.Num}
	case syntax.True, syntax.False:
		return datum{b: e.Kind == syntax.True}
	case syntax.Var:
		return names[e.Name]
	case syntax.Let:
		v := r.of(e.Args[0], names)
		with := map[string]datum{e.Name: v}
		for name, other := range names {
			with[name] = other
		}
		return r.of(e.Args[1], with)
	case syntax.If:
		if r.of(e.Args[0], names).b {
			return r.of(e.Args[1], names)
		}
		return r.of(e.Args[2], names)
	case syntax.Assert:
		r.must(r.of(e.Args[0], names).b, spot{api.CodeAssert, e.Args[0].Span})
		return r.of(e.Args[1], names)
	}
	var parts []datum
	for _, a := range e.Args {
		parts = append(parts, r.of(a, names))
	}
	if e.Kind == syntax.Call {
		return r.call(e, parts)
	}
	return r.done(e, parts)
}

func (r *runner) call(e expr, parts []datum) datum {
	i, _ := r.table.Find(syntax.Fn, e.Name)
	it, _ := r.table.Item(i)
	names := map[string]datum{}
	for i, p := range it.Params {
		r.typed(p.Type, parts[i], names, spot{api.CodeCall, e.Args[i].Span})
		names[p.Name] = parts[i]
	}
	r.deep++
	v := r.of(it.Body, names)
	r.typed(it.Result, v, names, spot{})
	r.deep--
	return v
}

// done: what is made of parts.
func (r *runner) done(e expr, parts []datum) datum {
	a := parts[0]
	b := parts[len(parts)-1]
	switch e.Kind {
	case syntax.Neg:
		return datum{n: big.Neg(a.n)}
	case syntax.Not:
		return datum{b: !a.b}
	case syntax.Add:
		return datum{n: big.Add(a.n, b.n)}
	case syntax.Sub:
		return datum{n: big.Sub(a.n, b.n)}
	case syntax.Mul:
		return datum{n: big.Mul(a.n, b.n)}
	case syntax.Div, syntax.Mod:
		r.must(big.Sign(b.n) != 0, spot{api.CodeZero, e.Span})
		q, m, _ := big.DivMod(a.n, b.n)
		if e.Kind == syntax.Div {
			return datum{n: q}
		}
		return datum{n: m}
	case syntax.And:
		return datum{b: a.b && b.b}
	case syntax.Or:
		return datum{b: a.b || b.b}
	case syntax.Eq:
		return datum{b: big.Cmp(a.n, b.n) == 0 && a.b == b.b}
	case syntax.Ne:
		return datum{b: big.Cmp(a.n, b.n) != 0 || a.b != b.b}
	case syntax.Lt:
		return datum{b: big.Cmp(a.n, b.n) < 0}
	case syntax.Le:
		return datum{b: big.Cmp(a.n, b.n) <= 0}
	case syntax.Gt:
		return datum{b: big.Cmp(a.n, b.n) > 0}
	case syntax.Ge:
		return datum{b: big.Cmp(a.n, b.n) >= 0}
	case syntax.Len:
		return datum{n: big.Of(int64(len(a.l)))}
	case syntax.Fill:
		many, _ := big.Small(e.Num)
		return datum{l: slices.Repeat([]big.Int{b.n}, int(many))}
	}
	at, small := big.Small(parts[1].n)
	in := small && at >= 0 && at < int64(len(a.l))
	r.must(in, spot{api.CodeBound, e.Span})
	if e.Kind == syntax.Get {
		return datum{n: a.l[at]}
	}
	l := slices.Clone(a.l)
	l[at] = b.n
	return datum{l: l}
}

// draw is arguments that are as a function's parameters say; false: none were found.
func draw(m *maker, table *base.Table, it item) ([]datum, bool) {
	for range 20 {
		r := &runner{table: table, steps: 2000}
		names := map[string]datum{}
		var l []datum
		fit := true
		for _, p := range it.Params {
			v := datum{}
			switch p.Type.Base {
			case api.Int:
				v.n = big.Of(int64(m.Intn(13) - 6))
			case api.Bool:
				v.b = m.Intn(2) == 0
			default:
				for range p.Type.Len {
					v.l = append(v.l, big.Of(int64(m.Intn(13)-6)))
				}
			}
			fit = fit && r.fits(p.Type, v, names)
			names[p.Name] = v
			l = append(l, v)
		}
		if fit {
			return l, true
		}
	}
	return nil, false
}

// fixed: a function's parameters are those values.
func fixed(it item, args []datum) []form {
	var l []form
	nums, truths := 0, 0
	for i, p := range it.Params {
		switch p.Type.Base {
		case api.Int:
			l = append(l, formula.EqF(linear.Var(nums), linear.Of(args[i].n)))
			nums++
		case api.Bool:
			f := formula.Truth(truths)
			if !args[i].b {
				f = formula.Neg(f)
			}
			l = append(l, f)
			truths++
		}
	}
	return l
}

// world is what is known at a condition, of a function's arguments.
type world struct {
	solver *smt.Solver
	l      []form
	apps   []smt.App
}

func worldOf(s *smt.Solver, c gen.Cons, args []form) world {
	w := world{solver: s, l: slices.Clone(args), apps: c.Apps}
	for _, h := range c.Hyps {
		if !h.IsK {
			w.l = append(w.l, formula.If(h.If, h.F))
		}
	}
	return w
}

func (w world) may(f form) bool {
	so, _ := w.solver.Sat(append(slices.Clone(w.l), f), w.apps)
	return so
}

// runsFit: what a run comes to fits what a function's conditions say: each is so, or
// not, as it is in the run. Sure: the arguments tell all values.
func runsFit(t *testing.T, table *base.Table, it item, l []gen.Cons, args []datum, sure bool) int {
	t.Helper()
	spots, v, done := run(table, it, args)
	fix := fixed(it, args)
	solver := smt.New()
	met := 0
	for n, c := range l {
		w := worldOf(solver, c, fix)
		so, come := spots[spot{c.Code, c.Span}]
		switch {
		case c.Head.IsK:
			if is := formula.EqF(c.Head.Use.Args[0], linear.Of(v.n)); done && sure && (!w.may(is) || w.may(formula.Neg(is))) {
				t.Errorf("condition %d of %s: the value may be another one", n, syntax.Print(it))
			}
		case come:
			met++
			delete(spots, spot{c.Code, c.Span})
			good, bad := w.may(c.Head.F), w.may(formula.Neg(c.Head.F))
			if so && !good || !so && !bad || sure && good == bad {
				t.Errorf("condition %d of %s: in a run %v; may be %v, may not be %v", n, syntax.Print(it), so, good, bad)
			}
		case sure && w.may(formula.Yes()):
			t.Errorf("condition %d of %s: no run comes to it, but it may be met", n, syntax.Print(it))
		}
	}
	for s, so := range spots {
		// By a number that isn't 0, which need not be to be seen, nothing must be.
		if s.code != api.CodeZero || !so {
			t.Errorf("%s: a run comes to %v, which has no condition", syntax.Print(it), s)
		}
	}
	return met
}

// TestRuns: conditions mean what functions do.
func TestRuns(t *testing.T) {
	met := 0
	for seed := range int64(1500) {
		m := newMaker(10000 + seed)
		m.sums = seed%2 == 0
		table := rightTable(t, m.text())
		last := table.Count() - 1
		it, _ := table.Item(last)
		l := gen.Function(table, last)
		for range 5 {
			if args, any := draw(m, table, it); any {
				met += runsFit(t, table, it, l, args, m.sums)
			}
		}
		if t.Failed() {
			return
		}
	}
	if met < 4000 {
		t.Error("few spots were come to:", met)
	}
}
