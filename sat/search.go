package sat

import "slices"

// pace is how many conflicts there are till the search begins anew, times a number
// of the row.
const pace = 256

// outcome is how a search stands.
type outcome int

const (
	going outcome = iota
	yes
	no
)

// possible: can the clauses alone be so?
func (s *Solver) possible() bool {
	if !s.stale {
		return true
	}
	so, _ := s.search()
	return so
}

// search: can all clauses and what is assumed be so? If so there is a model of
// them, else there are places of the assumed that can't be, none if the clauses
// alone can't. Each try is some time as long as it needs, so that one of them ends.
func (s *Solver) search(assume ...literal) (bool, []int) {
	if s.broken {
		return false, nil
	}
	s.clean()
	defer s.back(0)
	for i := 1; ; i++ {
		switch end, places := s.try(assume, pace*row(i)); end {
		case yes:
			s.note()
			return true, nil
		case no:
			return false, places
		}
	}
}

// try searches till the end, or till there were so many conflicts.
func (s *Solver) try(assume []literal, conflicts int) (outcome, []int) {
	for {
		if c := s.follow(); c != nil {
			if len(s.starts) == 0 {
				s.fail()
				return no, nil
			}
			s.learn(c)
			conflicts--
			continue
		}
		if conflicts <= 0 && len(s.starts) > len(assume) {
			s.back(len(assume))
			return going, nil
		}
		if len(s.starts) < len(assume) {
			if l := assume[len(s.starts)]; !s.suppose(l) {
				return no, s.blame(l)
			}
		} else if !s.guess() {
			return yes, nil
		}
	}
}

// suppose opens a level, on which the next literal that is assumed is so, unless it
// can't be. The assumed are told by their levels, so that each has one.
func (s *Solver) suppose(l literal) bool {
	if s.values[l] < 0 {
		return false
	}
	s.open()
	if s.values[l] == 0 {
		s.assign(l, nil)
	}
	return true
}

// guess tries a variable's value: the one that it had last. False: all have one.
func (s *Solver) guess() bool {
	for {
		v, ok := s.order.take()
		if !ok {
			return false
		}
		if l := literalOf(v, s.vars[v].phase); s.values[l] == 0 {
			s.open()
			s.assign(l, nil)
			return true
		}
	}
}

// blame: the places of the assumed by which a literal, that is assumed next, isn't
// so, and its own, rising. Each level is one of the assumed, and what was tried
// there is it.
func (s *Solver) blame(l literal) []int {
	places := []int{len(s.starts)}
	if s.vars[l.place()].level > 0 {
		s.see(l)
	}
	for _, x := range slices.Backward(s.trail) {
		v := &s.vars[x.place()]
		if !v.seen {
			continue
		}
		if v.reason == nil {
			places = append(places, v.level-1)
			continue
		}
		for _, y := range v.reason.lits {
			if w := &s.vars[y.place()]; w.level > 0 && !w.seen {
				s.see(y)
			}
		}
	}
	s.unsee(0)
	slices.Reverse(places)
	return places
}

// note: each variable's value, by which all is so, is the model.
func (s *Solver) note() {
	s.model = make([]int8, len(s.vars))
	for v := range s.vars {
		s.model[v] = s.values[literalOf(v, true)]
	}
	s.stale = false
}

// row is 1, 1, 2, 1, 1, 2, 4, ..: from 1 on, each piece twice, and then the double
// of its last number.
func row(i int) int {
	for {
		whole := 1
		for whole < i {
			whole = 2*whole + 1
		}
		if whole == i {
			return (whole + 1) / 2
		}
		i -= whole / 2
	}
}
