package smt

import (
	"strconv"
	"strings"

	"whetstone/big"
	"whetstone/congr"
	"whetstone/formula"
	"whetstone/linear"
)

// graph is layer 13's, whose nodes are sums, and what functions answer for them. A
// sum is taken for a function of its variables, told by its numbers.
type graph struct {
	nodes   *congr.Graph
	symbols map[string]int
}

// taking is the function of layer 13 that stands for one that takes a part more:
// nodes there have two parts at most.
const taking = -1

func (g *graph) node(symbol string, parts ...int) int {
	fn, ok := g.symbols[symbol]
	if !ok {
		fn = len(g.symbols)
		g.symbols[symbol] = fn
	}
	n, _ := g.nodes.Node(fn)
	for _, part := range parts {
		n, _ = g.nodes.Node(taking, n, part)
	}
	return n
}

func (g *graph) sum(t linear.Term) int {
	var parts []int
	var symbol strings.Builder
	for v, coef := range linear.Vars(t) {
		parts = append(parts, g.node("x"+strconv.Itoa(v)))
		symbol.WriteString(big.Text(coef) + "*")
	}
	symbol.WriteString(big.Text(t.Const))
	if symbol.String() == "1*0" {
		return parts[0]
	}
	return g.node(symbol.String(), parts...)
}

func (g *graph) app(a App) int {
	var parts []int
	for _, t := range a.Args {
		parts = append(parts, g.sum(t))
	}
	return g.node("f"+strconv.Itoa(a.Fn)+" "+strconv.Itoa(len(a.Args)), parts...)
}

// merge: two nodes are the same. Since all that is merged must be so in a question,
// nobody asks why.
func (g *graph) merge(n, m int) { g.nodes.Merge(n, m, 0) }

// derive: of apps that are the same, by sums that must be the same and by functions
// being functions, the variables must be the same.
func (q *question) derive() {
	if q.broken || len(q.apps) < 2 {
		return
	}
	g := &graph{congr.New(), map[string]int{}}
	nodes := make([]int, 0, len(q.apps))
	for _, a := range q.apps {
		n := g.app(a)
		g.merge(n, g.sum(linear.Var(a.Var)))
		nodes = append(nodes, n)
	}
	for _, e := range q.equalities() {
		g.equal(e)
	}
	first := map[int]int{}
	for i, n := range nodes {
		j, ok := first[n]
		if ok {
			q.require(formula.EqF(linear.Var(q.apps[j].Var), linear.Var(q.apps[i].Var)), true)
			continue
		}
		class, _ := g.nodes.Class(n)
		for _, m := range class {
			first[m] = i
		}
	}
}

// equalities are sums that must be 0.
func (q *question) equalities() []linear.Term {
	var l []linear.Term
	upper := map[int]big.Int{}
	ends := q.k.strictest(q.must)
	for _, e := range ends {
		if e.upper {
			upper[e.line] = e.n
		}
	}
	for _, e := range ends {
		if n, ok := upper[e.line]; ok && !e.upper && big.Cmp(n, e.n) == 0 {
			l = append(l, linear.Sub(q.k.lines[e.line].t, linear.Of(n)))
		}
	}
	return l
}

// mostTold is how many variables a sum has at most that is told by the others. More
// would be seldom of use.
const mostTold = 4

// equal: a sum is 0, so that each of its variables that is there once is told by the
// others.
func (g *graph) equal(t linear.Term) {
	if len(t.Parts) > mostTold {
		return
	}
	for v, coef := range linear.Vars(t) {
		if big.Cmp(big.Abs(coef), big.Of(1)) == 0 {
			rest := linear.Scale(linear.Without(t, v), big.Neg(coef))
			g.merge(g.sum(linear.Var(v)), g.sum(rest))
		}
	}
}
