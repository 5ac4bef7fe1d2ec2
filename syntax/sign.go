package syntax

// How tightly expressions bind, each level more than the one ahead of it.
const (
	open    = iota // let, if, assert: never a part of a row without brackets
	anyOf          // rows of or
	allOf          // rows of and
	compare        // two parts alone
	sums
	products
	alone // what can be a part
)

// sign is one that stands between two parts: the kind of the row that it
// makes, and how tightly it binds.
type sign struct {
	text  string
	kind  int
	level int
}

var signs = [...]sign{
	{"or", Or, anyOf},
	{"and", And, allOf},
	{"=", Eq, compare},
	{"!=", Ne, compare},
	{"<", Lt, compare},
	{"<=", Le, compare},
	{">", Gt, compare},
	{">=", Ge, compare},
	{"+", Add, sums},
	{"-", Sub, sums},
	{"*", Mul, products},
	{"/", Div, products},
	{"%", Mod, products},
}

// first: how tightly a row's first part must bind, so that it needs no brackets.
func (s sign) first() int {
	if s.level == compare {
		return s.level + 1 // no row of comparisons goes on
	}
	return s.level
}

// second: the same of its second part.
func (s sign) second() int {
	return s.level + 1
}

// signThatReads: the sign with a text; one of level open, if there is none.
func signThatReads(text string) sign {
	for _, s := range signs {
		if s.text == text {
			return s
		}
	}
	return sign{}
}

// signOfKind: the sign of a kind of rows; false: it is no row's kind.
func signOfKind(kind int) (sign, bool) {
	for _, s := range signs {
		if s.kind == kind {
			return s, true
		}
	}
	return sign{}, false
}

// levelOf: how tightly an expression of a kind binds.
func levelOf(kind int) int {
	switch kind {
	case Let, If, Assert:
		return open
	}
	if s, isRow := signOfKind(kind); isRow {
		return s.level
	}
	return alone
}
