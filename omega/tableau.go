package omega

import (
	"whetstone/big"
	"whetstone/linear"
)

// line tells a variable by others: times it is the sum.
type line struct {
	of    int
	times big.Int
	t     linear.Term
}

// told is the line without the variable that another line tells.
func (l line) told(by line) line {
	n := linear.Coef(l.t, by.of)
	if big.Sign(n) == 0 {
		return l
	}
	rest := linear.Scale(linear.Without(l.t, by.of), by.times)
	return line{l.of, big.Mul(l.times, by.times), linear.Add(rest, linear.Scale(by.t, n))}.lessened()
}

// lessened keeps numbers small: what divides all of a line is left out.
func (l line) lessened() line {
	n := big.Gcd(linear.Content(l.t), l.times)
	if isUnit(n) {
		return l
	}
	return line{l.of, exactly(l.times, n), divided(l.t, n)}
}

// turned is the line, telling one of its variables instead of its own.
func (l line) turned(v int) line {
	n := linear.Coef(l.t, v)
	t := linear.Sub(linear.Scale(linear.Var(l.of), l.times), linear.Without(l.t, v))
	if big.Sign(n) < 0 {
		t = linear.Scale(t, big.Of(-1))
	}
	return line{v, big.Abs(n), t}
}

// exactly is a divided by b, that divides it.
func exactly(a, b big.Int) big.Int {
	q, _, _ := big.DivMod(a, b)
	return q
}

// tableau is a system over numbers that needn't be whole, and a spot. Each strip's
// sum is a variable too, from first on. Where the spot is, is told by some of
// these, that are at one of their ends (at): the other variables have a line that
// tells them by these, or they are 0, as long as no strip has moved them.
type tableau struct {
	strips []strip
	first  int
	lines  []line
	at     values
}

func newTableau(y *system, first int) *tableau {
	return &tableau{strips: y.strips, first: first, at: values{}}
}

// told is a sum, as a variable's line, by all that have none.
func (t *tableau) told(of int, sum linear.Term) line {
	scale := t.scale()
	rest, made := sum, linear.Term{}
	for _, l := range t.lines {
		if n := linear.Coef(sum, l.of); big.Sign(n) != 0 {
			made = linear.Add(made, linear.Scale(l.t, big.Mul(n, exactly(scale, l.times))))
			rest = linear.Without(rest, l.of)
		}
	}
	return line{of, scale, linear.Add(made, linear.Scale(rest, scale))}.lessened()
}

// limit is a variable's end, the lower or the upper one.
func (t *tableau) limit(v int, lower bool) bound {
	switch {
	case v < t.first:
		return bound{}
	case lower:
		return t.strips[v-t.first].low
	}
	return t.strips[v-t.first].high
}

// scale is a number that every line's times divides: so many times all variables
// are whole.
func (t *tableau) scale() big.Int {
	n := big.Of(1)
	for _, l := range t.lines {
		n = big.Mul(n, exactly(l.times, big.Gcd(n, l.times)))
	}
	return n
}

// spot is where the variables are, scale times.
func (t *tableau) spot(scale big.Int) values {
	out := values{}
	for _, l := range t.lines {
		out[l.of] = exactly(big.Mul(t.at.of(l.t), scale), l.times)
	}
	return out
}

// settle moves the spot till it is within all strips, or tells why that can't be.
// The first strip and the first variable that can move are always those that do:
// so it ends.
func (t *tableau) settle() ([]int, bool) {
	for {
		i, below := t.astray()
		if i < 0 {
			return nil, true
		}
		l := t.told(t.first+i, t.strips[i].t)
		edge := t.limit(l.of, below)
		v, ok := t.mover(l.t, below)
		if !ok {
			return union(edge.why, t.blame(l.t, below)), false
		}
		t.swap(l, v, edge.n)
	}
}

// astray: the first strip that the spot is outside of (-1: there is none), and
// whether it is below it.
func (t *tableau) astray() (int, bool) {
	scale := t.scale()
	spot := t.spot(scale)
	for i, s := range t.strips {
		n := spot.of(s.t)
		if s.low.there && big.Cmp(n, big.Mul(s.low.n, scale)) < 0 {
			return i, true
		}
		if s.high.there && big.Cmp(n, big.Mul(s.high.n, scale)) > 0 {
			return i, false
		}
	}
	return -1, false
}

// mover: the first variable of a sum by which it can go up, or down.
func (t *tableau) mover(sum linear.Term, up bool) (int, bool) {
	for v, n := range linear.Vars(sum) {
		rises := up == (big.Sign(n) > 0)
		if b := t.limit(v, !rises); !b.there || big.Cmp(t.at[v], b.n) != 0 {
			return v, true
		}
	}
	return 0, false
}

// blame: why none of a sum's variables lets it go up, or down.
func (t *tableau) blame(sum linear.Term, up bool) []int {
	var why []int
	for v, n := range linear.Vars(sum) {
		rises := up == (big.Sign(n) > 0)
		why = union(why, t.limit(v, !rises).why)
	}
	return why
}

// swap puts a strip's variable at one of its ends, n; by its line another one, v,
// is told then, as it answers.
func (t *tableau) swap(l line, v int, n big.Int) line {
	by := l.turned(v)
	for i, x := range t.lines {
		t.lines[i] = x.told(by)
	}
	if v < t.first {
		t.lines = append(t.lines, by)
	}
	delete(t.at, v)
	t.at[l.of] = n
	return by
}

// whole: the spot, if it is whole.
func (t *tableau) whole() (values, bool) {
	m := values{}
	for _, l := range t.lines {
		q, r, _ := big.DivMod(t.at.of(l.t), l.times)
		if big.Sign(r) != 0 {
			return nil, false
		}
		m[l.of] = q
	}
	return m, true
}

// between: the last variable that isn't whole, and the number below it.
func (t *tableau) between() (int, big.Int) {
	last, below := -1, big.Int{}
	for _, l := range t.lines {
		n, rest, _ := big.DivMod(t.at.of(l.t), l.times)
		if l.of > last && big.Sign(rest) > 0 {
			last, below = l.of, n
		}
	}
	return last, below
}
