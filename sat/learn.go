package sat

import "slices"

// Clauses are forgotten behind so many conflicts, and then behind some more each
// time. Since half of them go, seldom more are kept than twice the most of these.
const (
	firstWait = 1000
	moreWait  = 300
	mostWait  = MostLearned / 4
)

// learn: a clause can't be so by what was tried; what follows from it is learnt, and
// as much is taken back as was tried in vain.
func (s *Solver) learn(c *clause) {
	s.conflicts++
	s.order.grow()
	lits := s.shorten(s.cause(c))
	level := s.second(lits)
	n := &clause{lits: lits, glue: s.glue(lits), made: s.conflicts, used: s.conflicts, learnt: true}
	s.back(level)
	s.rest()
	if len(lits) > 1 && len(s.learnt) < MostLearned {
		s.learnt = append(s.learnt, n)
		s.attach(n)
	}
	// One that can't be kept is a reason all the same, and gone with its literal.
	s.assign(lits[0], n)
}

// rest forgets, if it is time.
func (s *Solver) rest() {
	s.since++
	if s.since < min(firstWait+moreWait*s.rests, mostWait) {
		return
	}
	s.forget()
	s.since = 0
	s.rests++
}

// cause: literals of which one must be so, just the first one of the last level. Their
// variables are seen, and those on the way to the conflict, which stand behind all
// of the others' reasons.
func (s *Solver) cause(c *clause) []literal {
	lits := append(s.room[:0], 0)
	open := 0
	for at := len(s.trail) - 1; ; at-- {
		open += s.look(c, &lits)
		for !s.vars[s.trail[at].place()].seen {
			at--
		}
		l := s.trail[at]
		c = s.vars[l.place()].reason
		if open--; open == 0 {
			lits[0] = l.opposite()
			s.room = lits
			return lits
		}
	}
}

// look goes through a clause's literals that weren't seen: those of levels below
// the last one are gathered, those of the last one counted.
func (s *Solver) look(c *clause, lits *[]literal) int {
	s.use(c)
	open := 0
	for _, l := range c.lits {
		v := &s.vars[l.place()]
		if v.seen || v.level == 0 {
			continue
		}
		s.see(l)
		s.order.gain(l.place())
		if v.level == len(s.starts) {
			open++
		} else {
			*lits = append(*lits, l)
		}
	}
	return open
}

func (s *Solver) see(l literal) {
	s.vars[l.place()].seen = true
	s.touched = append(s.touched, l.place())
}

// unsee: no variable is seen but so many that were the first.
func (s *Solver) unsee(count int) {
	for _, v := range s.touched[count:] {
		s.vars[v].seen = false
	}
	s.touched = s.touched[:count]
}

// use: a clause had a part in a conflict.
func (s *Solver) use(c *clause) {
	if c.learnt {
		c.used = s.conflicts
		c.glue = min(c.glue, s.glue(c.lits))
	}
}

// glue: on how many levels some literals stand.
func (s *Solver) glue(lits []literal) int {
	s.counts++
	n := 0
	for _, l := range lits {
		level := s.vars[l.place()].level
		if s.marks[level] != s.counts {
			s.marks[level] = s.counts
			n++
		}
	}
	return n
}

// shorten leaves out the literals that follow from the others. Nothing is seen
// behind it.
func (s *Solver) shorten(lits []literal) []literal {
	s.glue(lits) // marks their levels
	short := slices.DeleteFunc(lits, func(l literal) bool { return l != lits[0] && s.follows(l) })
	s.unsee(0)
	return slices.Clone(short)
}

// follows: is a literal not so by other seen ones alone? Those on the way, which
// aren't so by these either, are seen then, and are gone through in turn. What was
// tried follows from nothing, nor does what stands on a level without a seen one.
func (s *Solver) follows(l literal) bool {
	before := len(s.touched)
	c := s.vars[l.place()].reason
	for at := before; c != nil; at++ {
		for _, x := range c.lits[1:] {
			v := &s.vars[x.place()]
			if v.seen || v.level == 0 {
				continue
			}
			if v.reason == nil || s.marks[v.level] != s.counts {
				s.unsee(before)
				return false
			}
			s.see(x)
		}
		if at == len(s.touched) {
			return true
		}
		c = s.vars[s.touched[at]].reason
	}
	return false
}

// second puts a literal of the highest level but the first one's to the second
// place: its level, 0 if there is none. There all others stay not so, and the
// first one follows.
func (s *Solver) second(lits []literal) int {
	if len(lits) == 1 {
		return 0
	}
	best := 1
	for i, l := range lits {
		if i > 1 && s.vars[l.place()].level > s.vars[lits[best].place()].level {
			best = i
		}
	}
	lits[1], lits[best] = lits[best], lits[1]
	return s.vars[lits[1].place()].level
}
