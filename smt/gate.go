package smt

import (
	"slices"
	"strconv"

	"whetstone/formula"
)

// shared tells formulas apart that were met: those with the same list of Args are
// the same, so that one that stands at many places is looked at once.
type shared struct {
	first *formula.F
	count int
	kind  int
}

func sharedBy(f formula.F) shared {
	if len(f.Args) == 0 {
		return shared{kind: f.Kind}
	}
	return shared{&f.Args[0], len(f.Args), f.Kind}
}

// reading is formulas becoming literals.
type reading struct {
	k   *known
	met map[shared]literal
}

// literal is the one that is so just where a formula is.
func (r *reading) literal(f formula.F) literal {
	switch f.Kind {
	case formula.True:
		return always
	case formula.Bool:
		return r.k.truth(f.Var)
	case formula.Le:
		return r.k.atom(f.T)
	case formula.Not:
		if len(f.Args) == 0 {
			return always
		}
		return -r.literal(f.Args[0])
	case formula.And, formula.Or:
		return r.row(f)
	}
	return never
}

// row is the literal of an And, or of an Or: one is so, just if not all others are.
func (r *reading) row(f formula.F) literal {
	name := sharedBy(f)
	if l, ok := r.met[name]; ok {
		return l
	}
	sign := literal(1)
	if f.Kind == formula.Or {
		sign = -1
	}
	parts := make([]literal, 0, len(f.Args))
	for _, a := range f.Args {
		parts = append(parts, sign*r.literal(a))
	}
	l := sign * r.k.gate(parts)
	r.met[name] = l
	return l
}

// gate is the literal that is so just if all parts are, whose list is its own.
func (k *known) gate(parts []literal) literal {
	slices.Sort(parts)
	parts = slices.Compact(parts)
	parts = slices.DeleteFunc(parts, func(l literal) bool { return l == always })
	switch {
	case len(parts) == 0:
		return always
	case len(parts) == 1:
		return parts[0]
	case clashes(parts):
		return never
	}
	text := gateText(parts)
	l, ok := k.gates[text]
	if !ok {
		l = k.newVariable(meaning{kind: gate, parts: slices.Clip(parts)})
		k.gates[text] = l
	}
	return l
}

// clashes: is one of some literals, that rise, never so, or the opposite of another?
func clashes(l []literal) bool {
	if l[0] == never {
		return true
	}
	for i, j := 0, len(l)-1; i < j; {
		switch sum := l[i] + l[j]; {
		case sum == 0:
			return true
		case sum < 0:
			i++
		default:
			j--
		}
	}
	return false
}

func gateText(parts []literal) string {
	var text []byte
	for _, l := range parts {
		text = append(strconv.AppendInt(text, int64(l), 10), ' ')
	}
	return string(text)
}

// explain adds the clauses by which a literal that is so means what it stands for,
// and those of all that this asks for.
func (k *known) explain(l literal) {
	for work := []literal{l}; len(work) > 0; {
		last := len(work) - 1
		l := work[last]
		work = append(work[:last], k.explained(l)...)
	}
}

// explained are the literals to go on with.
func (k *known) explained(l literal) []literal {
	m := &k.meanings[l.variable()]
	if m.kind != gate || l > 0 && m.so || l < 0 && m.not {
		return nil
	}
	if l > 0 {
		m.so = true
		for _, part := range m.parts {
			k.add(-l, part)
		}
		return m.parts
	}
	m.not = true
	others := opposites(m.parts)
	k.add(append([]literal{-l}, others...)...)
	return others
}

func opposites(l []literal) []literal {
	out := make([]literal, len(l))
	for i, x := range l {
		out[i] = -x
	}
	return out
}
