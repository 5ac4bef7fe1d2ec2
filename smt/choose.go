package smt

// choice is literals by which all that must be so is: of what was found so by the
// search, as much as is needed.
type choice struct {
	k    *known
	made map[literal]int
	list []literal
	open []literal // gates that aren't so, of whose parts one must be chosen yet
}

// chosen are truths' and atoms' literals that are so, by which all that must be is,
// whatever all others are.
func (q *question) chosen() []literal {
	c := &choice{k: q.k, made: map[literal]int{}}
	for _, l := range q.must {
		c.take(l)
	}
	for len(c.open) > 0 {
		last := len(c.open) - 1
		l := c.open[last]
		c.open = c.open[:last]
		c.take(c.best(l))
	}
	return c.list
}

// take: a literal must be so. What hangs on one of several is left for later, when
// more is known of what must be so anyway.
func (c *choice) take(l literal) {
	for work := []literal{l}; len(work) > 0; {
		last := len(work) - 1
		l := work[last]
		work = work[:last]
		if c.made[l]++; c.made[l] > 1 {
			continue
		}
		switch m := c.k.meanings[l.variable()]; {
		case m.kind != gate:
			c.list = append(c.list, l)
		case l > 0:
			work = append(work, m.parts...)
		default:
			c.open = append(c.open, l)
		}
	}
}

// best is the cheapest literal that is so of those of which one must be: one that is
// chosen already, a truth's, an atom's, a gate's.
func (c *choice) best(l literal) literal {
	best, least := never, 0
	for _, part := range c.k.meanings[l.variable()].parts {
		other := -part
		if !c.k.isSo(other) {
			continue
		}
		cost := 1 + int(c.k.meanings[other.variable()].kind)
		if c.made[other] > 0 {
			cost = 0
		}
		if best == never || cost < least {
			best, least = other, cost
		}
	}
	return best
}
