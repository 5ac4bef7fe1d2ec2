package engine

import (
	"slices"

	"whetstone/base"
	"whetstone/check"
	"whetstone/gen"
	"whetstone/horn"
	"whetstone/syntax"
)

// change is one from the last right text to another one. What it doesn't touch is
// taken over.
type change struct {
	engine    *Engine
	table     *base.Table
	functions []item // of the new text, in their order
	old, now  known
	made      map[string]struct{} // the functions whose conditions were made
	cone      *cone
}

// meant: the report of a right text.
func (e *Engine) meant(t *base.Table, items []item) check.Report {
	c := &change{
		engine: e, table: t,
		old: e.right, now: learn(items),
		made: map[string]struct{}{},
		cone: newCone(),
	}
	for _, it := range items {
		if it.tree.Kind == syntax.Fn {
			c.functions = append(c.functions, it)
		}
	}
	c.makeConditions()
	c.findCone()
	c.solve()
	c.hold()
	e.right = c.now
	return c.report()
}

func (c *change) makeConditions() {
	for _, it := range c.functions {
		name := it.tree.Name
		f := c.now.functions[name]
		if c.now.isMade(it, c.old) {
			i, _ := c.table.Find(syntax.Fn, name)
			f.conds = gen.Function(c.table, i)
			c.made[name] = struct{}{}
			c.engine.stats.Made = append(c.engine.stats.Made, name)
		} else {
			f.conds = c.old.functions[name].conds
		}
		c.now.functions[name] = f
	}
}

func (c *change) isMade(name string) bool {
	_, made := c.made[name]
	return made
}

func (c *change) findCone() {
	others := !slices.Equal(c.old.quals, c.now.quals)
	var all []gen.Cons
	for _, it := range c.functions {
		made, conds := c.isMade(it.tree.Name), c.now.functions[it.tree.Name].conds
		if made || others {
			c.cone.add(gen.Opens(it.tree)...)
		}
		if made {
			c.cone.addHeads(conds)
		}
		all = append(all, conds...)
	}
	for name, was := range c.old.functions {
		if _, there := c.now.functions[name]; !there || c.isMade(name) {
			c.cone.addHeads(was.conds)
		}
	}
	c.cone.spread(all)
}

// solve: the strongest predicates of the open places.
func (c *change) solve() {
	var parts []horn.Part
	var places []gen.Kap
	for _, it := range c.functions {
		name := it.tree.Name
		parts = append(parts, horn.Part{Fn: name, Cons: c.now.functions[name].conds})
		for _, k := range gen.Opens(it.tree) {
			if c.cone.has(k) {
				places = append(places, k)
			} else {
				c.now.sol[k] = c.old.sol[k]
			}
		}
	}
	c.engine.asker.Solve(c.table, parts, places, c.now.sol)
}

// hold: which conditions don't hold, of those whose Heads are formulas.
func (c *change) hold() {
	for _, it := range c.functions {
		name := it.tree.Name
		for n, x := range c.now.functions[name].conds {
			if x.Head.IsK {
				continue
			}
			q := horn.Query{Fn: name, Cons: n}
			_, broken := c.old.broken[q]
			if c.isMade(name) || c.cone.touches(x) {
				broken = !c.engine.asker.Holds(c.table, x, n, c.now.sol)
			}
			if broken {
				c.now.broken[q] = struct{}{}
			}
		}
	}
}

// report: all being known.
func (c *change) report() check.Report {
	var r check.Report
	for _, it := range c.functions {
		name, from := it.tree.Name, it.span.From
		for n, x := range c.now.functions[name].conds {
			if _, broken := c.now.broken[horn.Query{Fn: name, Cons: n}]; broken {
				r.Diags = append(r.Diags, check.ConsDiag(from, x))
			}
		}
		text := check.Head(c.table, it.tree, c.now.sol)
		r.Sigs = append(r.Sigs, check.Sig{At: check.Shift(it.tree.At, from), Text: text})
	}
	r.Diags = check.Sorted(r.Diags)
	return r
}
