package smt

import (
	"math"

	"whetstone/big"
	"whetstone/sat"
)

// literal is one of layer 15: a variable's number (it is so), or that below 0 (it
// isn't). Two more stand for what is so whatever comes, and for what isn't.
type literal int

const (
	always literal = math.MaxInt
	never  literal = -always
)

// variable is the place of a literal's meaning.
func (l literal) variable() int { return int(max(l, -l)) }

// meaning is what a variable of layer 15 stands for: an atom says that a line's sum
// is most at most; a gate, that all of its parts are so; a truth is just so, or not.
type meaning struct {
	kind  kind
	line  int
	most  big.Int
	parts []literal
	// Which of a gate's clauses were added: those for where it is so, and for where
	// it isn't. Nobody needs the others.
	so, not bool
}

type kind int

const (
	truth kind = iota
	atom
	gate
)

// known is what is kept from question to question: what variables stand for, clauses
// that say so, and clauses that are so whatever numbers the variables of sums are.
// Nothing of it says anything about a question.
type known struct {
	search   *sat.Solver
	meanings []meaning // of each variable; the first one is nobody's
	truths   map[int]literal
	lines    []line
	sums     map[string]int // places of lines, by the Texts of their sums
	gates    map[string]literal
	pairs    pairs
}

func newKnown() *known {
	return &known{
		search:   sat.New(),
		meanings: make([]meaning, 1),
		truths:   map[int]literal{},
		sums:     map[string]int{},
		gates:    map[string]literal{},
		pairs:    newPairs(),
	}
}

// isMuch: is so much kept that a question more could be too much?
func (k *known) isMuch() bool {
	return max(k.search.Vars(), k.search.Clauses()) > MostKept/2
}

// newVariable is the literal of a variable more.
func (k *known) newVariable(m meaning) literal {
	k.meanings = append(k.meanings, m)
	return literal(k.search.NewVar())
}

// add: a clause more, that is so whatever comes.
func (k *known) add(clause ...literal) {
	k.search.Add(numbers(clause)...)
}

func numbers(l []literal) []int {
	out := make([]int, len(l))
	for i, x := range l {
		out[i] = int(x)
	}
	return out
}

// isSo: by what was found last.
func (k *known) isSo(l literal) bool {
	return k.search.Value(l.variable()) == (l > 0)
}

func (k *known) truth(v int) literal {
	l, ok := k.truths[v]
	if !ok {
		l = k.newVariable(meaning{kind: truth})
		k.truths[v] = l
	}
	return l
}
