package smt

import (
	"whetstone/big"
	"whetstone/formula"
	"whetstone/linear"
)

// named tells apps apart.
type named struct {
	key string
	v   int
}

func nameOf(a App) named { return named{Key(a), a.Var} }

// pairs are those of apps that were told of: for the same they answer the same. Each
// has a literal that says so.
type pairs struct {
	apps map[named]int // the numbers of apps that were told of
	told map[[2]int]literal
}

func newPairs() pairs {
	return pairs{map[named]int{}, map[[2]int]literal{}}
}

// number is an app's.
func (p *pairs) number(a App) int {
	name := nameOf(a)
	n, ok := p.apps[name]
	if !ok {
		n = len(p.apps)
		p.apps[name] = n
	}
	return n
}

// pairOf is the same whichever comes first.
func pairOf(n, m int) [2]int { return [2]int{min(n, m), max(n, m)} }

// recall: of pairs that were told of ahead, and are there, it must be so. Many of
// them are forgotten first, since they needn't have variables of their own.
func (q *question) recall() {
	p := &q.k.pairs
	if len(p.told) > MostKept/2 {
		*p = newPairs()
	}
	var here []int
	for _, a := range q.apps {
		n, ok := p.apps[nameOf(a)]
		if !ok {
			continue
		}
		for _, m := range here {
			if l, ok := p.told[pairOf(n, m)]; ok {
				q.demand(l)
			}
		}
		here = append(here, n)
	}
}

// object: values by which two apps answer differently for the same can't be; such
// pairs are told of. False: there are none.
func (q *question) object(m values) bool {
	objects := false
	first := map[string]int{}
	for i, a := range q.apps {
		key := Key(at(a, m))
		j, ok := first[key]
		if !ok {
			first[key] = i
		} else if big.Cmp(m[a.Var], m[q.apps[j].Var]) != 0 {
			objects = true
			q.tell(q.apps[j], a)
		}
	}
	return objects
}

// at is an app with its sums' values.
func at(a App, m values) App {
	args := make([]linear.Term, 0, len(a.Args))
	for _, t := range a.Args {
		args = append(args, linear.Of(m.of(t)))
	}
	return App{a.Fn, args, a.Var}
}

// tell: two apps of one function, and of as many sums, answer the same for the same.
// They weren't told of ahead, or it would be so.
func (q *question) tell(a, b App) {
	p := &q.k.pairs
	l := q.read.literal(alike(a, b))
	p.told[pairOf(p.number(a), p.number(b))] = l
	q.demand(l)
}

// alike: a sum of one app isn't that of the other, or their variables are the same.
func alike(a, b App) formula.F {
	var l []formula.F
	for i, t := range a.Args {
		l = append(l, formula.LtF(t, b.Args[i]), formula.LtF(b.Args[i], t))
	}
	return formula.Any(append(l, formula.EqF(linear.Var(a.Var), linear.Var(b.Var)))...)
}
