package smt

import (
	"whetstone/big"
	"whetstone/linear"
	"whetstone/omega"
)

// values are those of variables; one that isn't there is 0.
type values map[int]big.Int

// of is the value of a sum in its one form.
func (m values) of(t linear.Term) big.Int {
	sum := t.Const
	for _, p := range t.Parts {
		sum = big.Add(sum, big.Mul(p.Coef, m[p.Var]))
	}
	return sum
}

// settle: values by which some literals are so; if there are none, clauses more say
// which of them are never so together.
func (q *question) settle(l []literal) (values, bool) {
	ends := q.k.strictest(l)
	conds := q.conds(q.rooms(ends))
	bindings, ok := omega.Sat(conds)
	if !ok {
		places, _ := omega.Core(conds)
		core := make([]end, 0, len(places))
		for _, i := range places {
			core = append(core, ends[i])
		}
		q.blame(core)
		return nil, false
	}
	m := values{}
	for _, b := range bindings {
		m[q.names[b.Var]] = b.N
	}
	return m, true
}

// clash: are sums never 0 or more together?
func (q *question) clash(sums []linear.Term) bool {
	_, ok := omega.Sat(q.conds(sums))
	return !ok
}

// rooms are sums that are 0 or more just where ends are kept, one by one.
func (q *question) rooms(ends []end) []linear.Term {
	l := make([]linear.Term, 0, len(ends))
	for _, e := range ends {
		l = append(l, q.k.room(e))
	}
	return l
}

// conds: sums are 0 or more, as layer 12 is told it.
func (q *question) conds(sums []linear.Term) []omega.Cons {
	l := make([]omega.Cons, 0, len(sums))
	for _, t := range sums {
		l = append(l, omega.Cons{T: q.renamed(t)})
	}
	return l
}

// renamed is a sum with variables from 0 on, as layer 12 asks for them.
func (q *question) renamed(t linear.Term) linear.Term {
	out := linear.Term{Const: t.Const}
	for v, coef := range linear.Vars(t) {
		i, ok := q.places[v]
		if !ok {
			i = len(q.names)
			q.names = append(q.names, v)
			q.places[v] = i
		}
		out.Parts = append(out.Parts, linear.Part{Var: i, Coef: coef})
	}
	return out
}
