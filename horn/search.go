package horn

import (
	"whetstone/base"
	"whetstone/gen"
)

// spot is where a condition stands: in which part, and which of its conditions.
type spot struct {
	part, cons int
}

// search is for the strongest solution. At first all that is tried is taken to hold;
// what a condition doesn't let hold is struck out, until each condition holds. What
// is struck out isn't in any solution: so the order in which this is done says
// nothing.
type search struct {
	engine *Engine
	table  *base.Table
	parts  []Part
	sol    Sol
	sought map[gen.Kap]struct{}
	uses   map[gen.Kap][]spot // the conditions that know something by a place
	queue  []spot             // the conditions that may not hold
	queued map[spot]struct{}
}

func newSearch(e *Engine, t *base.Table, parts []Part, places []gen.Kap, sol Sol) *search {
	s := &search{
		engine: e, table: t, parts: parts, sol: sol,
		sought: map[gen.Kap]struct{}{},
		uses:   map[gen.Kap][]spot{},
		queued: map[spot]struct{}{},
	}
	for _, k := range places {
		s.sought[k] = struct{}{}
		sol[k] = Insts(t, k)
	}
	for i, p := range parts {
		for n, c := range p.Cons {
			s.enter(spot{i, n}, c)
		}
	}
	return s
}

// enter: a condition is to be looked at, if it is one of a place that is sought.
func (s *search) enter(at spot, c gen.Cons) {
	if _, sought := s.sought[c.Head.Use.K]; !c.Head.IsK || !sought {
		return
	}
	s.push(at)
	for _, h := range c.Hyps {
		if _, sought := s.sought[h.Use.K]; h.IsK && sought {
			s.uses[h.Use.K] = append(s.uses[h.Use.K], at)
		}
	}
}

func (s *search) push(at spot) {
	if _, there := s.queued[at]; there {
		return
	}
	s.queued[at] = struct{}{}
	s.queue = append(s.queue, at)
}

func (s *search) run() {
	for len(s.queue) > 0 {
		at := s.queue[0]
		s.queue = s.queue[1:]
		delete(s.queued, at)
		s.look(at)
	}
}

// look: of a condition's place is struck out what doesn't hold by it.
func (s *search) look(at spot) {
	p := s.parts[at.part]
	c := p.Cons[at.cons]
	k := c.Head.Use.K
	before := s.sol[k]
	if len(before) == 0 {
		return
	}
	q := s.engine.about(s.table, Query{p.Fn, at.cons}, c, s.sol)
	after := kept(before, func(l []Inst) bool {
		return q.follows(said(s.table, c.Head, l))
	})
	if len(after) == len(before) {
		return
	}
	s.sol[k] = after
	for _, other := range s.uses[k] {
		s.push(other)
	}
}

// kept: those that hold, of a list that isn't empty. Most often all do, or most: so
// they are asked of together, and by halves only where that fails.
func kept(l []Inst, hold func([]Inst) bool) []Inst {
	if hold(l) {
		return l
	}
	if len(l) == 1 {
		return nil
	}
	half := len(l) / 2
	first := kept(l[:half:half], hold)
	return append(first, kept(l[half:], hold)...)
}
