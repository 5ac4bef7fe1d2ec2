package sat

// assign: a literal is so, by a clause if it wasn't tried. What is so for good needs
// no reason, since nobody asks for it.
func (s *Solver) assign(l literal, reason *clause) {
	if len(s.starts) == 0 {
		reason = nil
	}
	s.values[l], s.values[l.opposite()] = 1, -1
	v := &s.vars[l.place()]
	v.level, v.reason = len(s.starts), reason
	s.trail = append(s.trail, l)
}

// open: what is so from now on stands on a new level.
func (s *Solver) open() {
	s.starts = append(s.starts, len(s.trail))
	for len(s.marks) <= len(s.starts) {
		s.marks = append(s.marks, 0)
	}
}

// back takes back all levels above one.
func (s *Solver) back(level int) {
	if len(s.starts) <= level {
		return
	}
	start := s.starts[level]
	for i := len(s.trail) - 1; i >= start; i-- {
		l := s.trail[i]
		s.values[l], s.values[l.opposite()] = 0, 0
		v := &s.vars[l.place()]
		v.phase, v.reason = l.so(), nil
		s.order.put(l.place())
	}
	s.trail, s.starts, s.head = s.trail[:start], s.starts[:level], start
}

// follow: all that is so by clauses of which just one literal may be; a clause
// that can't be so, if there is one.
func (s *Solver) follow() *clause {
	for s.head < len(s.trail) {
		l := s.trail[s.head].opposite()
		s.head++
		if c := s.visit(l); c != nil {
			return c
		}
	}
	return nil
}

// visit looks at the clauses that watch a literal that isn't so.
func (s *Solver) visit(l literal) *clause {
	list := s.watches[l]
	kept := 0
	for i, w := range list {
		if s.values[w.other] > 0 {
			list[kept] = w
			kept++
			continue
		}
		c := w.clause
		if c.lits[0] == l {
			c.lits[0], c.lits[1] = c.lits[1], l
		}
		first := c.lits[0]
		if s.values[first] <= 0 && s.elsewhere(c) {
			continue
		}
		list[kept] = watch{c, first}
		kept++
		if s.values[first] < 0 {
			s.keep(l, kept+copy(list[kept:], list[i+1:]))
			return c
		}
		if s.values[first] == 0 {
			s.assign(first, c)
		}
	}
	s.keep(l, kept)
	return nil
}

// keep: so many stay of those that watch a literal.
func (s *Solver) keep(l literal, count int) {
	clear(s.watches[l][count:])
	s.watches[l] = s.watches[l][:count]
}

// elsewhere: another literal than the second one is watched from now on, if there
// is one that may be so. It is looked for from where the last one was found, round
// about, so that of a long clause all are looked at seldom.
func (s *Solver) elsewhere(c *clause) bool {
	rest := c.lits[2:]
	for range rest {
		if c.from >= len(rest) {
			c.from = 0
		}
		if l := rest[c.from]; s.values[l] >= 0 {
			c.lits[1], rest[c.from] = l, c.lits[1]
			s.watches[l] = append(s.watches[l], watch{c, c.lits[0]})
			return true
		}
		c.from++
	}
	return false
}
