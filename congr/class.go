package congr

import "slices"

func shapeOf(fn int, parts ...int) shape {
	s := shape{fn: fn, count: len(parts)}
	if len(parts) > 0 {
		s.first = parts[0]
	}
	if len(parts) > 1 {
		s.second = parts[1]
	}
	return s
}

// parts are those of a shape.
func (s shape) parts() []int { return []int{s.first, s.second}[:s.count] }

// classes are those of a node's parts, one by one.
func (g *Graph) classes(n int) []int {
	l := g.nodes[n].shape.parts()
	for i, part := range l {
		l[i] = g.nodes[part].class
	}
	return l
}

// current is a node's shape by the classes of its parts: nodes of one such shape
// are the same.
func (g *Graph) current(n int) shape {
	return shapeOf(g.nodes[n].shape.fn, g.classes(n)...)
}

// add makes a node that is the same as none yet.
func (g *Graph) add(s shape) int {
	if g.made == nil {
		g.made, g.known = map[shape]int{}, map[shape]int{}
	}
	n := len(g.nodes)
	g.nodes = append(g.nodes, node{shape: s, class: n, next: n, size: 1, tie: tie{to: nobody}})
	g.made[s] = n
	used := slices.Compact(g.classes(n))
	for _, c := range used {
		g.nodes[c].users = append(g.nodes[c].users, n)
	}
	g.later(func() {
		for _, c := range used {
			users := &g.nodes[c].users
			*users = (*users)[:len(*users)-1]
		}
		delete(g.made, s)
		g.nodes[n] = node{}
		g.nodes = g.nodes[:n]
	})
	return n
}

// note: a node is the first one of its current shape. Shapes that aren't current
// any more stay: they have a node that stands for no class, so that nobody asks
// for them till it does once more, and then they are right again.
func (g *Graph) note(n int) {
	s := g.current(n)
	g.known[s] = n
	g.later(func() { delete(g.known, s) })
}

// settle: these are the same, and so is all that follows from it.
func (g *Graph) settle(work ...pair) {
	for i := 0; i < len(work); i++ {
		if p := work[i]; !g.same(p.n, p.m) {
			work = append(work, g.join(p)...)
		}
	}
}

// join makes one class of two; the pairs that are the same by it.
func (g *Graph) join(p pair) []pair {
	if g.weight(p.n) > g.weight(p.m) {
		p.n, p.m = p.m, p.n
	}
	from, into := g.nodes[p.n].class, g.nodes[p.m].class
	g.bind(p)
	g.move(from, into)
	var more []pair
	for _, user := range g.nodes[from].users {
		first, ok := g.known[g.current(user)]
		if !ok {
			g.note(user)
		} else if !g.same(user, first) {
			more = append(more, pair{user, first, follows})
		}
	}
	return more
}

// weight is how much there is to do if a node's class goes into another one: the
// lighter one goes, so that each node does so but seldom.
func (g *Graph) weight(n int) int {
	class := g.nodes[n].class
	return g.nodes[class].size + len(g.nodes[class].users)
}

// move: a class goes into another one. What it had itself stays, for going back.
func (g *Graph) move(from, into int) {
	a, b := &g.nodes[from], &g.nodes[into]
	g.rename(from, into)
	a.next, b.next = b.next, a.next
	b.size += a.size
	b.users = append(b.users, a.users...)
	g.later(func() {
		a, b := &g.nodes[from], &g.nodes[into]
		b.users = b.users[:len(b.users)-len(a.users)]
		b.size -= a.size
		a.next, b.next = b.next, a.next
		g.rename(from, from)
	})
}

// rename: another node stands for all of a ring.
func (g *Graph) rename(ring, class int) {
	n := ring
	for {
		g.nodes[n].class = class
		if n = g.nodes[n].next; n == ring {
			return
		}
	}
}
