package smt

import (
	"slices"

	"whetstone/big"
	"whetstone/linear"
)

// line is a sum, and all that was ever said of it. The sum has no number, nothing but
// 1 divides its Coefs, and the first of them is above 0: so all that can be said of
// it, and of it turned round, meets here.
type line struct {
	t     linear.Term
	marks []mark // rising
}

// mark is a number, and the atom that says that the sum is that at most.
type mark struct {
	n    big.Int
	atom literal
}

// find: the place of a number's mark, or where it would stand; and whether it is there.
func (l line) find(n big.Int) (int, bool) {
	return slices.BinarySearchFunc(l.marks, n, func(m mark, n big.Int) int { return big.Cmp(m.n, n) })
}

// atom is the literal that is so just where a sum is 0 or less.
func (k *known) atom(t linear.Term) literal {
	switch {
	case !linear.IsConst(t):
	case big.Sign(t.Const) <= 0:
		return always
	default:
		return never
	}
	sum, n, upper := lined(t)
	i := k.line(sum)
	if upper {
		return k.mark(i, n)
	}
	return -k.mark(i, big.Sub(n, big.Of(1)))
}

// lined: a sum with variables is 0 or less just where a line's sum is n at most, if
// upper, else at least.
func lined(t linear.Term) (sum linear.Term, n big.Int, upper bool) {
	content := linear.Content(t)
	rest := big.Neg(t.Const)
	if isTurned(t) {
		content = big.Neg(content)
		n, _ = big.Ceil(rest, content)
	} else {
		n, _ = big.Floor(rest, content)
		upper = true
	}
	return divided(t, content), n, upper
}

// isTurned: is the first Coef below 0?
func isTurned(t linear.Term) bool {
	for _, coef := range linear.Vars(t) {
		return big.Sign(coef) < 0
	}
	return false
}

// divided is a sum's parts, divided by a number that divides them all.
func divided(t linear.Term, by big.Int) linear.Term {
	out := linear.Term{}
	for v, coef := range linear.Vars(t) {
		times, _, _ := big.DivMod(coef, by)
		out.Parts = append(out.Parts, linear.Part{Var: v, Coef: times})
	}
	return out
}

// line is the place of a sum's line.
func (k *known) line(t linear.Term) int {
	text := linear.Text(t)
	i, ok := k.sums[text]
	if !ok {
		i = len(k.lines)
		k.lines = append(k.lines, line{t: t})
		k.sums[text] = i
	}
	return i
}

// mark is the atom that says that a line's sum is n at most.
func (k *known) mark(i int, n big.Int) literal {
	marks := k.lines[i].marks
	at, ok := k.lines[i].find(n)
	if ok {
		return marks[at].atom
	}
	l := k.newVariable(meaning{kind: atom, line: i, most: n})
	// What is at most a number is at most each greater one.
	if at > 0 {
		k.add(-marks[at-1].atom, l)
	}
	if at < len(marks) {
		k.add(-l, marks[at].atom)
	}
	k.lines[i].marks = slices.Insert(marks, at, mark{n, l})
	return l
}

// end is what an atom's literal says: a line's sum is n at most, if upper, else at
// least.
type end struct {
	line  int
	n     big.Int
	upper bool
	by    literal
}

func (k *known) end(l literal) end {
	m := k.meanings[l.variable()]
	if l > 0 {
		return end{m.line, m.most, true, l}
	}
	return end{m.line, big.Add(m.most, big.Of(1)), false, l}
}

// room is the sum that is 0 or more just where an end is kept.
func (k *known) room(e end) linear.Term {
	t := k.lines[e.line].t
	if e.upper {
		return linear.Sub(linear.Of(e.n), t)
	}
	return linear.Sub(t, linear.Of(e.n))
}

// isStricter: does it leave less room than another one of its side?
func (e end) isStricter(than end) bool {
	order := big.Cmp(e.n, than.n)
	return order < 0 && e.upper || order > 0 && !e.upper
}

// side is one of a line.
type side struct {
	line  int
	upper bool
}

// strictest are those ends of some literals that leave the least room, one of each
// side of each line, in the order in which the sides are met. What isn't an atom's
// literal says nothing here.
func (k *known) strictest(l []literal) []end {
	var ends []end
	places := map[side]int{}
	for _, x := range l {
		if k.meanings[x.variable()].kind != atom {
			continue
		}
		e := k.end(x)
		at, ok := places[side{e.line, e.upper}]
		if !ok {
			places[side{e.line, e.upper}] = len(ends)
			ends = append(ends, e)
		} else if e.isStricter(ends[at]) {
			ends[at] = e
		}
	}
	return ends
}
