package check_test

import (
	"slices"
	"testing"

	"whetstone/api"
	"whetstone/base"
	"whetstone/big"
	"whetstone/check"
	"whetstone/syntax"
)

// datum is a value in a run.
type datum struct {
	n big.Int
	b bool
	l []big.Int
}

// runner does what functions do. Heads are their items with the predicates that were
// found.
type runner struct {
	table *base.Table
	names []string // of functions, in the items' order
	heads map[string]syntax.Item
	fn    string // the one that is done
	steps int
}

// tired ends a run that has too many steps; wrong one that goes wrong.
type tired struct{}

type wrong struct {
	code int
	fn   string
	at   span // of the function's bytes
}

func newRunner(t testing.TB, s string, r check.Report) *runner {
	t.Helper()
	table, _ := tableOf(t, s)
	run := &runner{table: table, heads: map[string]syntax.Item{}}
	for _, g := range r.Sigs {
		it, at, e := syntax.Parse([]byte("fn " + g.Text + " = 0;"))
		if e != api.OK {
			t.Fatalf("%q: %v, %d", g.Text, at, e)
		}
		run.names = append(run.names, it.Name)
		run.heads[it.Name] = it
	}
	return run
}

// run is what a call comes to: false, if something goes wrong, or if arguments or
// results on the way aren't as heads say.
func (r *runner) run(name string, args []datum) (bad wrong, ok, done bool) {
	defer func() {
		switch x := recover().(type) {
		case nil:
		case tired:
			ok = true
		case wrong:
			bad = x
		default:
			panic(x)
		}
	}()
	r.steps = 1500
	r.call(syntax.Expr{Name: name, Args: make([]syntax.Expr, len(args))}, args)
	return wrong{}, true, true
}

func (r *runner) must(so bool, code int, at span) {
	if !so {
		panic(wrong{code, r.fn, at})
	}
}

func (r *runner) call(e syntax.Expr, args []datum) datum {
	i, _ := r.table.Find(syntax.Fn, e.Name)
	it, _ := r.table.Item(i)
	head := r.heads[e.Name]
	names := map[string]datum{}
	for i, p := range head.Params {
		r.must(r.fits(p.Type, args[i], names), api.CodeCall, e.Args[i].Span)
		names[p.Name] = args[i]
	}
	caller := r.fn
	r.fn = e.Name
	v := r.of(it.Body, names)
	r.must(r.fits(head.Result, v, names), api.CodeResult, it.Body.Span)
	r.fn = caller
	return v
}

// fits: is a value as a type says?
func (r *runner) fits(t syntax.Type, v datum, names map[string]datum) bool {
	if len(t.Pred) == 0 {
		return true
	}
	return r.of(t.Pred[0], with(names, "v", v)).b
}

func with(names map[string]datum, name string, v datum) map[string]datum {
	l := map[string]datum{name: v}
	for other, is := range names {
		l[other] = is
	}
	return l
}

func (r *runner) of(e syntax.Expr, names map[string]datum) datum {
	if r.steps--; r.steps < 0 {
		panic(tired{})
	}
	switch e.Kind {
	case syntax.Num:
		return datum{n: e.Num}
	case syntax.True, syntax.False:
		return datum{b: e.Kind == syntax.True}
	case syntax.Var:
		return names[e.Name]
	case syntax.Let:
		return r.of(e.Args[1], with(names, e.Name, r.of(e.Args[0], names)))
	case syntax.If:
		if r.of(e.Args[0], names).b {
			return r.of(e.Args[1], names)
		}
		return r.of(e.Args[2], names)
	case syntax.Assert:
		r.must(r.of(e.Args[0], names).b, api.CodeAssert, e.Args[0].Span)
		return r.of(e.Args[1], names)
	}
	var parts []datum
	for _, a := range e.Args {
		parts = append(parts, r.of(a, names))
	}
	if e.Kind == syntax.Call {
		return r.call(e, parts)
	}
	return r.made(e, parts)
}

// made: what is made of parts.
func (r *runner) made(e syntax.Expr, parts []datum) datum {
	a, b := parts[0], parts[len(parts)-1]
	order := big.Cmp(a.n, b.n)
	switch e.Kind {
	case syntax.Neg:
		return datum{n: big.Neg(a.n)}
	case syntax.Not:
		return datum{b: !a.b}
	case syntax.Add:
		return datum{n: big.Add(a.n, b.n)}
	case syntax.Sub:
		return datum{n: big.Sub(a.n, b.n)}
	case syntax.Mul:
		// Numbers that are squared again and again are tiring too.
		if len(a.n.Mag)+len(b.n.Mag) > 40 {
			panic(tired{})
		}
		return datum{n: big.Mul(a.n, b.n)}
	case syntax.Div, syntax.Mod:
		r.must(big.Sign(b.n) != 0, api.CodeZero, e.Span)
		q, m, _ := big.DivMod(a.n, b.n)
		if e.Kind == syntax.Div {
			return datum{n: q}
		}
		return datum{n: m}
	case syntax.And:
		return datum{b: a.b && b.b}
	case syntax.Or:
		return datum{b: a.b || b.b}
	case syntax.Eq:
		return datum{b: order == 0 && a.b == b.b}
	case syntax.Ne:
		return datum{b: order != 0 || a.b != b.b}
	case syntax.Lt:
		return datum{b: order < 0}
	case syntax.Le:
		return datum{b: order <= 0}
	case syntax.Gt:
		return datum{b: order > 0}
	case syntax.Ge:
		return datum{b: order >= 0}
	case syntax.Len:
		return datum{n: big.Of(int64(len(a.l)))}
	case syntax.Fill:
		many, _ := big.Small(e.Num)
		return datum{l: slices.Repeat([]big.Int{b.n}, int(many))}
	}
	at, small := big.Small(parts[1].n)
	r.must(small && at >= 0 && at < int64(len(a.l)), api.CodeBound, e.Span)
	if e.Kind == syntax.Get {
		return datum{n: a.l[at]}
	}
	l := slices.Clone(a.l)
	l[at] = b.n
	return datum{l: l}
}

// draw is arguments that are as a function's head says; false: none were found.
func (r *runner) draw(m *maker, name string) ([]datum, bool) {
	for range 30 {
		r.steps = 1500
		names := map[string]datum{}
		var l []datum
		fit := true
		for _, p := range r.heads[name].Params {
			v := datum{}
			switch p.Type.Base {
			case api.Int:
				v.n = big.Of(int64(m.Intn(13) - 6))
			case api.Bool:
				v.b = m.Intn(2) == 0
			default:
				for range p.Type.Len {
					v.l = append(v.l, big.Of(int64(m.Intn(13)-6)))
				}
			}
			fit = fit && r.fits(p.Type, v, names)
			names[p.Name] = v
			l = append(l, v)
		}
		if fit {
			return l, true
		}
	}
	return nil, false
}

// TestNothingGoesWrong: of a text without Diags no call fails, and arguments and
// results are as heads say, found predicates too.
func TestNothingGoesWrong(t *testing.T) {
	passed, runs, found := 0, 0, 0
	for seed := range int64(2500) {
		m := newMaker(seed)
		s := m.text()
		r := check.Check([]byte(s))
		if len(r.Diags) > 0 {
			continue
		}
		passed++
		run := newRunner(t, s, r)
		for _, name := range run.names {
			for range 6 {
				args, any := run.draw(m, name)
				if !any {
					break
				}
				bad, ok, done := run.run(name, args)
				if !ok {
					t.Fatalf("%s\n  %s %v: %v\n  %v", s, name, args, bad, r.Sigs)
				}
				if done {
					runs++
					if len(run.heads[name].Result.Pred) > 0 {
						found++
					}
				}
			}
		}
	}
	if passed < 1000 || runs < 5000 || found < 1000 {
		t.Error("few runs:", passed, runs, found)
	}
}

// TestWhatGoesWrongIsTold: where a call fails first, its arguments being as its head
// says, there is a Diag. What was found is never what fails.
func TestWhatGoesWrongIsTold(t *testing.T) {
	fails := map[int]int{}
	for seed := range int64(2500) {
		m := newMaker(10000 + seed)
		s := m.text()
		r := check.Check([]byte(s))
		run := newRunner(t, s, r)
		_, spans := tableOf(t, s)
		for _, name := range run.names {
			for range 4 {
				args, any := run.draw(m, name)
				if !any {
					break
				}
				bad, ok, _ := run.run(name, args)
				if ok {
					continue
				}
				fails[bad.code]++
				i, _ := run.table.Find(syntax.Fn, bad.fn)
				told := slices.ContainsFunc(r.Diags, func(d diag) bool {
					return d.Code == bad.code && d.Span == check.Shift(bad.at, spans[i].From)
				})
				if !told {
					t.Fatalf("%s\n  %s %v: %v\n  %v", s, name, args, bad, r)
				}
			}
		}
	}
	for code := api.CodeAssert; code <= api.CodeResult; code++ {
		if fails[code] < 20 {
			t.Error("few fails:", code, fails[code])
		}
	}
}
