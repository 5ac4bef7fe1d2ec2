package sat

import (
	"cmp"
	"slices"
)

// clause is one with two literals or more, of which the first two are watched. If
// a literal got its value by it, that is the first one.
type clause struct {
	lits   []literal
	from   int // where, behind the first two, one that may be so is looked for
	glue   int // of one that was learnt: on how many levels its literals stood
	made   int // of one that was learnt: by which conflict
	used   int // of one that was learnt: by which conflict last
	learnt bool
	gone   bool // it isn't needed: nobody watches it any more
}

// watch is a clause, and a literal of it: while that is so, the clause is.
type watch struct {
	clause *clause
	other  literal
}

// insert: a clause more, while nothing is tried.
func (s *Solver) insert(lits []literal) {
	lits, so := s.trimmed(lits)
	if so {
		return
	}
	s.fit(lits)
	switch len(lits) {
	case 0:
		s.fail()
	case 1:
		s.units++
		s.settle(lits[0])
	default:
		c := &clause{lits: lits}
		s.clauses = append(s.clauses, c)
		s.attach(c)
	}
}

// trimmed: each literal once, without those that can't be so; or whether the
// clause is so whatever comes.
func (s *Solver) trimmed(lits []literal) ([]literal, bool) {
	slices.SortFunc(lits, func(a, b literal) int { return cmp.Compare(a, b) })
	lits = slices.Compact(lits)
	var l []literal
	for i, x := range lits {
		if s.values[x] > 0 || i > 0 && lits[i-1] == x.opposite() {
			return nil, true
		}
		if s.values[x] == 0 {
			l = append(l, x)
		}
	}
	return l, false
}

// settle: a literal is so for good, and what follows from it.
func (s *Solver) settle(l literal) {
	s.assign(l, nil)
	if s.follow() != nil {
		s.fail()
	}
}

// fail: the clauses alone can't be so, and none of them is needed any more.
func (s *Solver) fail() {
	s.broken = true
	s.clauses, s.learnt, s.units = nil, nil, 0
	for l := range s.watches {
		s.watches[l] = nil
	}
}

func (s *Solver) attach(c *clause) {
	for i, l := range c.lits[:2] {
		s.watches[l] = append(s.watches[l], watch{c, c.lits[1-i]})
	}
}

// fit keeps the model, if a clause more can be so by it: if it must, a variable
// that has no value there gets one.
func (s *Solver) fit(lits []literal) {
	if s.stale {
		return
	}
	free := -1
	for i, l := range lits {
		switch s.modelled(l) {
		case 1:
			return
		case 0:
			free = i
		}
	}
	if free < 0 {
		s.stale = true
		return
	}
	l := lits[free]
	for len(s.model) <= l.place() {
		s.model = append(s.model, 0)
	}
	s.model[l.place()] = valueOf(l)
}

// modelled: is a literal so by the model (1), not so (-1), or either (0)?
func (s *Solver) modelled(l literal) int8 {
	if l.place() >= len(s.model) {
		return 0
	}
	return s.model[l.place()] * valueOf(l)
}

// valueOf is the value of a literal's variable if the literal is so.
func valueOf(l literal) int8 {
	if l.so() {
		return 1
	}
	return -1
}

// clean: what is so for good needs no clause, and what isn't no place in one.
// Nothing is tried.
func (s *Solver) clean() {
	if s.cleaned == len(s.trail) {
		return
	}
	s.cleaned = len(s.trail)
	s.clauses = s.cleaner(s.clauses)
	s.learnt = s.cleaner(s.learnt)
	s.purge()
}

// cleaner is what is needed of some clauses. The first two literals of one that
// isn't so yet aren't known, since all of the trail was followed.
func (s *Solver) cleaner(l []*clause) []*clause {
	return slices.DeleteFunc(l, func(c *clause) bool {
		c.gone = slices.ContainsFunc(c.lits, func(x literal) bool { return s.values[x] > 0 })
		if !c.gone {
			c.lits = slices.DeleteFunc(c.lits, func(x literal) bool { return s.values[x] < 0 })
		}
		return c.gone
	})
}

// forget: half of what was learnt goes, that with literals of the most levels, and
// of those that which wasn't used for the longest time. What a literal got its
// value by stays.
func (s *Solver) forget() {
	slices.SortFunc(s.learnt, func(a, b *clause) int {
		return cmp.Or(cmp.Compare(a.glue, b.glue), cmp.Compare(b.used, a.used), cmp.Compare(b.made, a.made))
	})
	half := s.learnt[len(s.learnt)/2:]
	rest := slices.DeleteFunc(half, func(c *clause) bool {
		c.gone = !s.locked(c)
		return c.gone
	})
	s.learnt = s.learnt[:len(s.learnt)-len(half)+len(rest)]
	s.purge()
}

func (s *Solver) locked(c *clause) bool {
	return s.vars[c.lits[0].place()].reason == c
}

// purge: nobody watches what is gone.
func (s *Solver) purge() {
	for l, list := range s.watches {
		s.watches[l] = slices.DeleteFunc(list, func(w watch) bool { return w.clause.gone })
	}
}
