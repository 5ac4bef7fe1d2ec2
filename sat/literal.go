package sat

// literal is twice a variable's place (its number less 1), and 1 more if it says
// that the variable isn't so: a literal and its opposite stand side by side.
type literal uint32

func literals(lits ...int) []literal {
	l := make([]literal, len(lits))
	for i, n := range lits {
		if n > 0 {
			l[i] = literalOf(n-1, true)
		} else {
			l[i] = literalOf(-n-1, false)
		}
	}
	return l
}

func literalOf(place int, so bool) literal {
	if so {
		return literal(2 * place)
	}
	return literal(2*place + 1)
}

func (l literal) opposite() literal { return l ^ 1 }

// place is where its variable stands in a solver's list.
func (l literal) place() int { return int(l >> 1) }

func (l literal) so() bool { return l&1 == 0 }
