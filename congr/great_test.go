package congr_test

import (
	"slices"
	"testing"

	"whetstone/api"
	"whetstone/congr"
)

// The tests of this file are of graphs with many nodes: P1's rule 6, and P13.2
// where ways are long.

const many = 50000

// nodesOf makes so many nodes without parts.
func nodesOf(t *testing.T, g *congr.Graph, count int) []int {
	t.Helper()
	var l []int
	for fn := range count {
		n, e := g.Node(fn)
		if e != api.OK {
			t.Fatal("Node", e)
		}
		l = append(l, n)
	}
	return l
}

// upTo are the numbers below one.
func upTo(n int) []int {
	l := make([]int, n)
	for i := range l {
		l[i] = i
	}
	return l
}

// A long row of merges, from its beginning, its end, and in pieces.
func TestLongRows(t *testing.T) {
	orders := [][]int{upTo(many), upTo(many), upTo(many)}
	slices.Reverse(orders[1])
	slices.SortStableFunc(orders[2], func(a, b int) int { return a%7 - b%7 })
	for _, order := range orders {
		g := congr.New()
		l := nodesOf(t, g, many+1)
		g.Push()
		for _, i := range order {
			if e := g.Merge(l[i], l[i+1], i); e != api.OK {
				t.Fatal("Merge", e)
			}
		}
		same(t, g, l[0], l[many], upTo(many)...)
		same(t, g, l[many/2], l[many/2+3], many/2, many/2+1, many/2+2)
		if class, e := g.Class(l[77]); e != api.OK || !slices.Equal(class, l) {
			t.Error("Class of a long row", e)
		}
		if e := g.Pop(); e != api.OK {
			t.Fatal("Pop", e)
		}
		differ(t, g, l[0], l[1])
		if class, e := g.Class(l[77]); e != api.OK || !slices.Equal(class, l[77:78]) {
			t.Error("Class behind the Pop", class, e)
		}
	}
}

// All that is made of two nodes, one above the other, twice in each: what follows
// is told once, not once more for each way to it.
func TestTowers(t *testing.T) {
	g := congr.New()
	l := nodesOf(t, g, 2)
	x, y := l[0], l[1]
	for range many {
		x, _ = g.Node(-1, x, x)
		y, _ = g.Node(-1, y, y)
	}
	differ(t, g, x, y)
	g.Push()
	g.Merge(l[1], l[0], 12)
	same(t, g, x, y, 12)
	top, _ := g.Node(-2, x)
	other, _ := g.Node(-2, y)
	same(t, g, other, top, 12)
	g.Pop()
	differ(t, g, x, y)
	if g.Count() != 2*many+2 {
		t.Error("Count", g.Count())
	}
}

// f(..f(a)..) = a for two counts that nothing divides: all of them are one, and but
// for those two counts by both merges.
func TestLongRings(t *testing.T) {
	g := congr.New()
	l := nodesOf(t, g, 1)
	for i := range 2000 {
		n, _ := g.Node(-1, l[i])
		l = append(l, n)
	}
	g.Merge(l[1999], l[0], 1)
	differ(t, g, l[0], l[1])
	same(t, g, l[1], l[2000], 1)
	g.Merge(l[0], l[1456], 2)
	for i := range l {
		switch i {
		case 0, 1456, 1999:
			if !g.Same(l[0], l[i]) {
				t.Error("not the same:", i)
			}
		default:
			same(t, g, l[0], l[i], 1, 2)
		}
	}
}

// Each of many nodes is a part of many others; all are merged again and again, in
// other ways each time.
func TestManyUsers(t *testing.T) {
	g := congr.New()
	l := nodesOf(t, g, 200)
	var users [][]int
	for _, n := range l {
		var row []int
		for fn := range 100 {
			m, _ := g.Node(fn, n)
			row = append(row, m)
		}
		users = append(users, row)
	}
	for round := range 60 {
		g.Push()
		for i := range 200 {
			g.Merge(l[i], l[(i*round+i+1)%200], i)
		}
		class, _ := g.Class(l[0])
		other := class[len(class)-1]
		for fn := range 100 {
			n, m := users[0][fn], users[other][fn]
			if why, e := g.Explain(n, m); e != api.OK || !enough(t, other, round, why) {
				t.Fatal("what isn't enough", fn, round, why, e)
			}
			differ(t, g, n, users[other][(fn+1)%100])
		}
		g.Pop()
		differ(t, g, users[0][0], users[1][0])
	}
}

// enough: are the functions of two of 200 nodes the same by these of a round's
// merges?
func enough(t *testing.T, other, round int, why []int) bool {
	t.Helper()
	g := congr.New()
	l := nodesOf(t, g, 200)
	n, _ := g.Node(300, l[0])
	m, _ := g.Node(300, l[other])
	for _, i := range why {
		g.Merge(l[i], l[(i*round+i+1)%200], i)
	}
	return g.Same(n, m)
}

// Very many marks, with a node and a merge behind each.
func TestManyMarks(t *testing.T) {
	g := congr.New()
	first, _ := g.Node(0)
	for i := range many {
		g.Push()
		n, _ := g.Node(i + 1)
		f, _ := g.Node(-1, n)
		g.Merge(f, first, 2*i)
		g.Merge(n, i, 2*i+1)
	}
	for i := many; i > 0; i-- {
		if g.Count() != 2*i+1 || !g.Same(2*i, 0) {
			t.Fatal("ahead of a Pop", i, g.Count())
		}
		if e := g.Pop(); e != api.OK || g.Same(2*i, 0) {
			t.Fatal("Pop", e)
		}
	}
	if e := g.Pop(); e != api.ErrState || g.Count() != 1 {
		t.Error("behind the last one", e, g.Count())
	}
}
