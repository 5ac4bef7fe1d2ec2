package omega

import (
	"iter"

	"whetstone/big"
	"whetstone/linear"
)

// byShape looks at a system as a shape of numbers that needn't be whole. If it is
// empty, or if a whole spot of it is soon met, that is all; strips without an end
// are left out, all others get two ends; and what is left is cut into slices.
func (s *search) byShape(y *system) outcome {
	t := newTableau(y, s.nextVar)
	if out, done := s.glance(y, t); done {
		return out
	}
	narrow, loose, ray := t.narrowed()
	if len(loose) > 0 {
		return s.along(narrow, loose, ray)
	}
	if _, equal := narrow.equality(); equal || narrow.broken {
		return s.solve(narrow)
	}
	return s.bySlices(narrow)
}

// glance: there may be no spot at all; or a whole one is met at once, or when one
// variable behind the other is rounded.
func (s *search) glance(y *system, t *tableau) (outcome, bool) {
	if why, ok := t.settle(); !ok {
		return outcome{why: why}, true
	}
	var left []telling
	for t != nil {
		if m, ok := t.whole(); ok {
			return outcome{ok: true, m: m}.with(left), true
		}
		v, n := t.between()
		y, t, n = s.rounded(y, v, n)
		left = append(left, defined(v, linear.Of(n)))
	}
	return outcome{}, false
}

// rounded is the system with a variable rounded down or up, with its tableau, and
// the number that it is; nil: there is no spot then.
func (s *search) rounded(y *system, v int, n big.Int) (*system, *tableau, big.Int) {
	for _, n := range []big.Int{n, big.Add(n, big.Of(1))} {
		next := y.replaced(v, linear.Of(n), nil)
		t := newTableau(next, s.nextVar)
		if next.broken {
			continue
		}
		if _, ok := t.settle(); ok {
			return next, t, n
		}
	}
	return nil, nil, n
}

// narrowed are the strips that have two ends, as narrow as whole numbers let them
// be; and the others, with a way by which one comes farther and farther into all
// of these, while nothing else changes.
func (t *tableau) narrowed() (narrow *system, loose []strip, ray values) {
	narrow, ray = newSystem(), values{}
	for i, s := range t.strips {
		if big.Sign(ray.of(s.t)) != 0 {
			loose = append(loose, s)
			continue
		}
		low, high, way := t.span(s.t)
		if !low.there {
			loose = append(loose, s)
			ray.move(way, big.Of(1))
			continue
		}
		s.low = stricter(s.low, low, true)
		s.high = stricter(s.high, high, false)
		narrow.meet(s)
		if narrow.broken || s.isEquality() {
			// That alone makes the system less: the others can wait.
			for _, s := range t.strips[i+1:] {
				narrow.meet(s)
			}
			break
		}
	}
	return narrow, loose, ray
}

// along: where the strips with two ends hold, all others do so too, if one only
// goes on far enough.
func (s *search) along(narrow *system, loose []strip, ray values) outcome {
	out := s.solve(narrow)
	if !out.ok {
		return out
	}
	steps := big.Int{}
	for _, x := range loose {
		edge := x.low
		if !edge.there {
			edge = x.high
		}
		need, _ := big.Ceil(big.Sub(edge.n, out.m.of(x.t)), ray.of(x.t))
		steps = big.Max(steps, need)
	}
	out.m.move(ray, steps)
	return out
}

// bySlices cuts a shape that has an end on all sides where it is thin, as its
// variables tell it when they are made anew: there are few slices there, or each
// of them is so great that there is soon one with whole numbers.
func (s *search) bySlices(y *system) outcome {
	y, left := s.squeezed(y)
	y, more := s.reduced(y)
	return s.byLast(y).with(append(left, more...))
}

// byLast: the slices are those of the last variable.
func (s *search) byLast(y *system) outcome {
	t := newTableau(y, s.nextVar)
	if out, done := s.glance(y, t); done {
		return out
	}
	vars := y.variables()
	last := vars[len(vars)-1]
	low, high, _ := t.span(linear.Var(last))
	return s.slices(y, last, low, high)
}

// slices tries the values of a variable. Each is an assumption: if that has no
// part in why it can't be, no other value can be either.
func (s *search) slices(y *system, v int, low, high bound) outcome {
	why := union(low.why, high.why)
	for n := range outward(low.n, high.n) {
		mark := s.newMark()
		out := s.solve(y.replaced(v, linear.Of(n), []int{mark}))
		if out.ok {
			out.m[v] = n
			return out
		}
		// Marks rise, and those of inner slices are gone: this one is the last.
		last := len(out.why) - 1
		if last < 0 || out.why[last] != mark {
			return out
		}
		why = union(why, out.why[:last:last])
	}
	return outcome{why: why}
}

// outward goes through the whole numbers from low to high, from the middle on.
func outward(low, high big.Int) iter.Seq[big.Int] {
	return func(yield func(big.Int) bool) {
		one := big.Of(1)
		up, _ := big.Ceil(big.Add(low, high), big.Of(2))
		down := big.Sub(up, one)
		for big.Cmp(up, high) <= 0 || big.Cmp(down, low) >= 0 {
			if big.Cmp(up, high) <= 0 && !yield(up) {
				return
			}
			if big.Cmp(down, low) >= 0 && !yield(down) {
				return
			}
			up, down = big.Add(up, one), big.Sub(down, one)
		}
	}
}
