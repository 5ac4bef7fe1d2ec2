package congr

import "whetstone/api"

// follows is the reason of two nodes whose parts are the same; nobody is no node.
const (
	follows = -1
	nobody  = -1
)

// pair is two nodes that are the same, for a reason.
type pair struct{ n, m, why int }

// tie is why a node is the same as another one. All ties of a class are a tree:
// each node but one is tied to another one, so that there is one way from each to
// each, whichever of them is at the top.
type tie struct{ to, why int }

// bind ties two nodes that were in different classes; the first one's tree is
// turned round for it.
func (g *Graph) bind(p pair) {
	g.lift(p.n)
	g.nodes[p.n].tie = tie{p.m, p.why}
	g.later(func() {
		// Other ties behind this one may have turned it round.
		n := p.n
		if g.nodes[n].tie.to != p.m {
			n = p.m
		}
		g.nodes[n].tie = tie{to: nobody}
	})
}

// lift turns ties round, so that a node is at the top of its tree.
func (g *Graph) lift(n int) {
	turned := tie{to: nobody}
	for n != nobody {
		old := g.nodes[n].tie
		g.nodes[n].tie = turned
		n, turned = old.to, tie{n, old.why}
	}
}

// Explain: reasons by which two nodes are the same, rising, each once.
func (g *Graph) Explain(n, m int) ([]int, api.Errno) {
	switch {
	case g == nil:
		return nil, api.ErrNil
	case !g.has(n, m):
		return nil, api.ErrArg
	case !g.same(n, m):
		return nil, api.ErrState
	}
	t := telling{g: g, told: map[int]int{}, reasons: map[int]int{}}
	t.way(n, m)
	for i := 0; i < len(t.open); i++ {
		t.way(t.open[i].n, t.open[i].m)
	}
	var l []int
	for why := range t.reasons {
		l = append(l, why)
	}
	return rising(l), api.OK
}

// telling is what was told so far, while something is explained.
type telling struct {
	g       *Graph
	told    map[int]int // nodes whose tie was told: one further up, with all ties between told
	reasons map[int]int // each reason, and how often it was met
	open    []pair      // what is to be told yet
}

// way tells all ties between two nodes of a tree.
func (t *telling) way(n, m int) {
	top := t.meeting(n, m)
	t.climb(n, top)
	t.climb(m, top)
}

// above is the nearest node, from this one upward, whose tie wasn't told.
func (t *telling) above(n int) int {
	for {
		up, ok := t.told[n]
		if !ok {
			return n
		}
		if higher, ok := t.told[up]; ok {
			t.told[n] = higher // The next one that comes along has less to go.
		}
		n = up
	}
}

// meeting is where the ways upward of two nodes meet. Both go on by turns, so
// that neither goes much further than the other one must.
func (t *telling) meeting(n, m int) int {
	met := map[int]int{}
	n, m = t.above(n), t.above(m)
	for {
		if n != nobody {
			if met[n] > 0 {
				return n
			}
			met[n]++
			n = t.up(n)
		}
		n, m = m, n
	}
}

func (t *telling) up(n int) int {
	to := t.g.nodes[n].tie.to
	if to == nobody {
		return nobody
	}
	return t.above(to)
}

// climb tells the ties from a node up to another one.
func (t *telling) climb(n, top int) {
	for n = t.above(n); n != top; n = t.above(n) {
		t.tell(n)
	}
}

func (t *telling) tell(n int) {
	it := t.g.nodes[n].tie
	t.told[n] = it.to
	if it.why != follows {
		t.reasons[it.why]++
		return
	}
	others := t.g.nodes[it.to].shape.parts()
	for i, part := range t.g.nodes[n].shape.parts() {
		t.open = append(t.open, pair{part, others[i], follows})
	}
}
