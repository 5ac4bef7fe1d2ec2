package congr_test

import (
	"slices"
	"testing"
)

// The tests of this file are of P13.1 and P13.2: whichever way and in whatever
// order nodes are made and merged, what is the same is what follows, and what
// Explain tells is enough.

// orders goes through all orders of numbers below n.
func orders(n int, try func(order []int)) {
	order := make([]int, n)
	for i := range order {
		order[i] = i
	}
	var from func(i int)
	from = func(i int) {
		if i == n {
			try(order)
			return
		}
		for j := i; j < n; j++ {
			order[i], order[j] = order[j], order[i]
			from(i + 1)
			order[i], order[j] = order[j], order[i]
		}
	}
	from(0)
}

// task is nodes, each by its function and its parts' places here, and merges.
type task struct {
	nodes  []made
	merges []merge
}

func tasks() []task {
	return []task{
		// f(f(f(a))) = a, f(f(f(f(f(a))))) = a, and others on the way.
		{[]made{{0, nil}, {5, []int{0}}, {5, []int{1}}, {5, []int{2}}, {5, []int{3}}, {5, []int{4}}, {7, []int{1}}},
			[]merge{{3, 0, 1}, {5, 0, 2}, {6, 4, 3}}},
		// A ring of merges, one of which isn't needed.
		{[]made{{0, nil}, {1, nil}, {2, nil}, {3, nil}, {5, []int{0}}, {5, []int{2}}, {6, []int{4, 1}}, {6, []int{5, 3}}},
			[]merge{{0, 1, 4}, {1, 2, 1}, {2, 3, 3}, {3, 0, 2}}},
		// Pairs, and one reason for two merges.
		{[]made{{0, nil}, {1, nil}, {2, nil}, {6, []int{0, 1}}, {6, []int{1, 0}}, {6, []int{2, 3}}, {6, []int{4, 2}}, {5, []int{5}}},
			[]merge{{0, 1, 1}, {3, 2, 1}, {7, 0, 2}, {5, 1, 3}}},
		// Merges of what is made of others alone.
		{[]made{{0, nil}, {1, nil}, {5, []int{0}}, {5, []int{1}}, {5, []int{2}}, {5, []int{3}}, {4, []int{4}}, {4, []int{5}}},
			[]merge{{2, 5, 3}, {3, 4, 2}, {6, 0, 1}, {7, 1, 0}}},
	}
}

// build makes a task's nodes as far as they aren't there yet, a part ahead of what
// it is a part of; their numbers in the graph.
func (k task) build(b both, numbers map[int]int, at int) int {
	b.t.Helper()
	if n, ok := numbers[at]; ok {
		return n
	}
	var parts []int
	for _, p := range k.nodes[at].parts {
		parts = append(parts, k.build(b, numbers, p))
	}
	numbers[at] = b.node(k.nodes[at].fn, parts...)
	return numbers[at]
}

// In all orders of merges, each to either side; all nodes are there ahead, or as
// few as can be.
func TestOrdersOfMerges(t *testing.T) {
	for _, k := range tasks() {
		orders(len(k.merges), func(order []int) {
			for turned := range 1 << len(order) {
				for _, ahead := range []bool{true, false} {
					k.run(t, order, turned, ahead)
				}
			}
		})
	}
}

func (k task) run(t *testing.T, order []int, turned int, ahead bool) {
	t.Helper()
	b, numbers := newBoth(t), map[int]int{}
	finish := func() {
		for at := range k.nodes {
			k.build(b, numbers, at)
		}
	}
	if ahead {
		finish()
	}
	for _, i := range order {
		x := k.merges[i]
		n, m := k.build(b, numbers, x.n), k.build(b, numbers, x.m)
		if turned>>i&1 > 0 {
			n, m = m, n
		}
		b.merge(n, m, x.why)
	}
	finish()
	b.holds()
}

// What follows in the end hangs on no order: a node's class is the same nodes.
func TestClassesAreTheSameInAllOrders(t *testing.T) {
	for _, k := range tasks() {
		var want [][]int
		orders(len(k.nodes), func(order []int) {
			if order[0]+order[1] > 6 { // some thousands of them are enough
				return
			}
			b, numbers := newBoth(t), map[int]int{}
			for _, at := range order {
				k.build(b, numbers, at)
			}
			for _, x := range k.merges {
				b.merge(numbers[x.n], numbers[x.m], x.why)
			}
			if got := k.classes(b, numbers); want == nil {
				want = got
			} else if !slices.EqualFunc(got, want, slices.Equal) {
				t.Fatalf("%v, made in the order %v: %v, not %v", k, order, got, want)
			}
		})
	}
}

// classes are those of a task's nodes, by their places there.
func (k task) classes(b both, numbers map[int]int) [][]int {
	var out [][]int
	for at := range k.nodes {
		var class []int
		for other := range k.nodes {
			if b.g.Same(numbers[at], numbers[other]) {
				class = append(class, other)
			}
		}
		out = append(out, class)
	}
	return out
}

// Nodes are made and merged by a fixed source, wrong calls among them, and all
// answers are looked at behind each call.
func TestAnyCalls(t *testing.T) {
	m := newMaker(1)
	for range 2500 {
		b := newBoth(t)
		for range 3 + m.Intn(22) {
			if m.Intn(3) > 0 {
				m.addNode(b)
			} else {
				m.addMerge(b)
			}
			b.holds()
		}
	}
}

// Many merges at the end: much follows from each of them.
func TestMergesBehindNodes(t *testing.T) {
	m := newMaker(2)
	for range 2500 {
		b := newBoth(t)
		for range 10 + m.Intn(16) {
			m.addNode(b)
		}
		for range 1 + m.Intn(6) {
			m.addMerge(b)
		}
		b.holds()
	}
}
