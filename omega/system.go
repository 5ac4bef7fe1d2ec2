package omega

import (
	"whetstone/big"
	"whetstone/linear"
)

// bound is how far a sum goes to one side, and why.
type bound struct {
	there bool
	n     big.Int
	why   []int
}

// stricter: of two bounds of one side the one that leaves less room; of two
// that leave the same the one that hangs on less.
func stricter(a, b bound, lower bool) bound {
	if !a.there || !b.there {
		if a.there {
			return a
		}
		return b
	}
	order := big.Cmp(a.n, b.n)
	if order == 0 && len(a.why) <= len(b.why) || order != 0 && (order > 0) == lower {
		return a
	}
	return b
}

// strip is all that is said of one sum: it is low at least, and high at most.
// The sum has no number, nothing but 1 divides its Coefs, and the first of them
// is above 0: so all that can be said of it, and of it turned round, meets here.
type strip struct {
	t         linear.Term
	key       string
	low, high bound
}

// isEquality: is there one value alone?
func (s strip) isEquality() bool {
	return s.low.there && s.high.there && big.Cmp(s.low.n, s.high.n) == 0
}

// cond is a condition: the sum is 0, if eq, else 0 or more; and why.
type cond struct {
	t   linear.Term
	eq  bool
	why []int
}

// conds are a strip's bounds as conditions.
func (s strip) conds() []cond {
	if s.isEquality() {
		return []cond{{linear.Sub(s.t, linear.Of(s.low.n)), true, union(s.low.why, s.high.why)}}
	}
	var l []cond
	if s.low.there {
		l = append(l, cond{linear.Sub(s.t, linear.Of(s.low.n)), false, s.low.why})
	}
	if s.high.there {
		l = append(l, cond{linear.Sub(linear.Of(s.high.n), s.t), false, s.high.why})
	}
	return l
}

// system is strips, no two of one sum. If it is broken, they can't hold
// together, by what is in clash.
type system struct {
	strips []strip
	places map[string]int
	broken bool
	clash  []int
}

func newSystem() *system { return &system{places: map[string]int{}} }

func (y *system) breakBy(why []int) {
	if !y.broken {
		y.broken, y.clash = true, why
	}
}

// add: one condition more, its sum being in the one form.
func (y *system) add(c cond) {
	divisor := linear.Content(c.t)
	if big.Sign(divisor) == 0 {
		if sign := big.Sign(c.t.Const); sign < 0 || c.eq && sign > 0 {
			y.breakBy(c.why)
		}
		return
	}
	if big.Sign(c.t.Parts[0].Coef) < 0 {
		divisor = big.Neg(divisor)
	}
	t := divided(c.t, divisor)
	s := strip{t: t, key: linear.Text(t)}
	number := big.Neg(c.t.Const)
	least, _ := big.Ceil(number, divisor)
	most, _ := big.Floor(number, divisor)
	// An equality whose number isn't divided has its least above its most.
	if c.eq || big.Sign(divisor) > 0 {
		s.low = bound{true, least, c.why}
	}
	if c.eq || big.Sign(divisor) < 0 {
		s.high = bound{true, most, c.why}
	}
	y.meet(s)
}

// divided is a sum's parts, divided by a number that divides them all.
func divided(t linear.Term, by big.Int) linear.Term {
	if big.Cmp(by, big.Of(1)) == 0 {
		return linear.Term{Parts: t.Parts}
	}
	out := linear.Term{Parts: make([]linear.Part, 0, len(t.Parts))}
	for v, n := range linear.Vars(t) {
		q, _, _ := big.DivMod(n, by)
		out.Parts = append(out.Parts, linear.Part{Var: v, Coef: q})
	}
	return out
}

// meet: one strip more, or less room in the one of its sum.
func (y *system) meet(s strip) {
	i, there := y.places[s.key]
	if there {
		s.low = stricter(y.strips[i].low, s.low, true)
		s.high = stricter(y.strips[i].high, s.high, false)
		y.strips[i] = s
	} else {
		y.places[s.key] = len(y.strips)
		y.strips = append(y.strips, s)
	}
	if s.low.there && s.high.there && big.Cmp(s.low.n, s.high.n) > 0 {
		y.breakBy(union(s.low.why, s.high.why))
	}
}

// replaced is the system with a sum in the place of a variable, and why it may
// stand there.
func (y *system) replaced(v int, by linear.Term, why []int) *system {
	out := newSystem()
	for _, s := range y.strips {
		if big.Sign(linear.Coef(s.t, v)) == 0 {
			out.meet(s)
			continue
		}
		for _, c := range s.conds() {
			out.add(cond{linear.Subst(c.t, v, by), c.eq, union(c.why, why)})
		}
	}
	return out
}

// equality: a strip with one value alone; one that tells a variable at once
// comes first.
func (y *system) equality() (strip, bool) {
	found, there := strip{}, false
	for _, s := range y.strips {
		if !s.isEquality() {
			continue
		}
		if _, n := leastCoef(s.t); isUnit(n) {
			return s, true
		}
		if !there {
			found, there = s, true
		}
	}
	return found, there
}

// isUnit: is it 1 or -1?
func isUnit(n big.Int) bool { return big.Cmp(big.Abs(n), big.Of(1)) == 0 }

// leastCoef: the variable of a sum whose Coef is the least, without its sign.
func leastCoef(t linear.Term) (int, big.Int) {
	at, least := 0, big.Int{}
	for v, n := range linear.Vars(t) {
		if big.Sign(least) == 0 || big.Cmp(big.Abs(n), big.Abs(least)) < 0 {
			at, least = v, n
		}
	}
	return at, least
}
