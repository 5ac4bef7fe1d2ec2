package smt

import (
	"slices"
	"sort"

	"whetstone/big"
	"whetstone/linear"
)

// blame adds clauses that say that some ends, of which none may be left out, are
// never kept together. The less they ask for, the more they rule out: so each end is
// first made to say as little as it may.
func (q *question) blame(ends []end) {
	ends = q.contracted(ends)
	for i := range ends {
		q.weaken(ends, i)
	}
	clause := make([]literal, 0, len(ends))
	for _, e := range ends {
		clause = append(clause, -e.by)
	}
	q.k.add(clause...)
}

// Of no more ends than fewest two are put together: what would be left says no more
// than what is there. Of one question mostMade atoms are made for that, so that
// there is an end to it.
const (
	fewest   = 3
	mostMade = 100
)

// contracted are ends that are never kept together either, one in the place of two
// that it follows from, as often as that can be. Ways that differ in such two alone,
// as those through an if and those round it, are ruled out together by it.
func (q *question) contracted(ends []end) []end {
	for i := 1; i < len(ends) && len(ends) > fewest; i++ {
		for j := range i {
			// What wasn't enough with more ends isn't with fewer: each two are tried once.
			if fewer, ok := q.instead(ends, j, i); ok {
				ends = fewer
				i -= 2
				break
			}
		}
	}
	return ends
}

// instead: ends with one in the place of two from which it follows, which is a clause
// more; false: there is none by which they are never kept together.
func (q *question) instead(ends []end, i, j int) ([]end, bool) {
	rest := slices.Delete(slices.Clone(ends), j, j+1)
	rest = slices.Delete(rest, i, i+1)
	for _, t := range q.k.together(ends[i], ends[j]) {
		if e, ok := q.enough(rest, t); ok {
			q.k.add(-ends[i].by, -ends[j].by, e.by)
			return append(rest, e), true
		}
	}
	return nil, false
}

// together are sums that are 0 or more where two ends are kept, without one of the
// variables that both have.
func (k *known) together(a, b end) []linear.Term {
	var l []linear.Term
	first, second := k.room(a), k.room(b)
	for v, n := range linear.Vars(first) {
		m := linear.Coef(second, v)
		if big.Sign(n)*big.Sign(m) >= 0 {
			continue
		}
		t := linear.Add(linear.Scale(first, big.Abs(m)), linear.Scale(second, big.Abs(n)))
		if !linear.IsConst(t) {
			l = append(l, t)
		}
	}
	return l
}

// enough: an end that is kept where a sum is 0 or more, and is never kept with some
// others. If no atom tells one, and the sum has just one variable, an atom is made.
func (q *question) enough(rest []end, t linear.Term) (end, bool) {
	rooms := q.rooms(rest)
	rooms = rooms[:len(rooms):len(rooms)]
	if e, ok := q.k.implied(t); ok && q.clash(append(rooms, q.k.room(e))) {
		return e, true
	}
	if len(t.Parts) > 1 || q.made == mostMade || !q.clash(append(rooms, t)) {
		return end{}, false
	}
	q.made++
	return q.k.end(q.k.atom(linear.Scale(t, big.Of(-1)))), true
}

// implied is the strictest end with an atom that is kept where a sum is 0 or more.
func (k *known) implied(t linear.Term) (end, bool) {
	sum, n, upper := lined(linear.Scale(t, big.Of(-1)))
	i, ok := k.sums[linear.Text(sum)]
	if !ok {
		return end{}, false
	}
	marks := k.lines[i].marks
	at, _ := k.lines[i].find(n)
	if upper && at < len(marks) {
		return k.end(marks[at].atom), true
	}
	// The last mark below n: what is n at least is more than that.
	if !upper && at > 0 {
		return k.end(-marks[at-1].atom), true
	}
	return end{}, false
}

// weaken: one of some ends that are never kept together leaves as much room as it
// may, of those of its side that have an atom.
func (q *question) weaken(ends []end, at int) {
	weaker := q.k.weaker(ends[at])
	// Of the last one, which is the end itself, it is known.
	i := sort.Search(len(weaker)-1, func(i int) bool {
		ends[at] = weaker[i]
		return q.clash(q.rooms(ends))
	})
	ends[at] = weaker[i]
}

// weaker are an end and those of its side with more room, the one with the most first.
func (k *known) weaker(e end) []end {
	var l []end
	marks := k.lines[e.line].marks
	at, _ := k.lines[e.line].find(k.meanings[e.by.variable()].most)
	if e.upper {
		for _, m := range slices.Backward(marks[at:]) {
			l = append(l, k.end(m.atom))
		}
		return l
	}
	for _, m := range marks[:at+1] {
		l = append(l, k.end(-m.atom))
	}
	return l
}
