package congr_test

import (
	"math"
	"slices"
	"testing"

	"whetstone/api"
	"whetstone/congr"
)

// The tests of this file are of P13.1: all calls answer as the table says.

func TestNoNode(t *testing.T) { newBoth(t).holds() }

// The same function and the same parts are one node, numbered in order.
func TestNode(t *testing.T) {
	b := newBoth(t)
	for range 2 {
		for i, fn := range []int{0, 1, -1, math.MinInt, math.MaxInt} {
			if n := b.node(fn); n != i {
				t.Errorf("the node of %d is %d, not %d", fn, n, i)
			}
		}
	}
	want := 5
	for _, fn := range []int{0, math.MinInt, 7} {
		for _, parts := range [][]int{{0}, {1}, {5}, {0, 0}, {0, 1}, {1, 0}, {1, 1}, {5, 9}, {9, 5}} {
			for range 2 {
				if n := b.node(fn, parts...); n != want {
					t.Errorf("the node of %d, %v is %d, not %d", fn, parts, n, want)
				}
			}
			want++
		}
	}
	b.holds()
}

// The count of parts tells functions apart, and parts that are 0 are parts.
func TestCountsOfParts(t *testing.T) {
	b := newBoth(t)
	a := b.node(4)
	one, two := b.node(4, a), b.node(4, a, a)
	if a == one || a == two || one == two {
		t.Error("nodes with unlike counts of parts are one:", a, one, two)
	}
	b.holds()
	b.merge(a, b.node(5), 0)
	b.holds()
	differ(t, b.g, one, two)
	differ(t, b.g, a, one)
}

func TestNodeErrors(t *testing.T) {
	b := newBoth(t)
	b.node(1, 0) // its own number isn't there yet
	a := b.node(1)
	for _, s := range strangers(1) {
		for _, parts := range [][]int{{s}, {s, a}, {a, s}, {s, s}} {
			if n, e := b.g.Node(1, parts...); n != 0 || e != api.ErrArg {
				t.Errorf("Node of %v is %d, %v", parts, n, e)
			}
		}
		for _, parts := range [][]int{{a, a, s}, {s, s, s}, {a, s, a, s}} {
			if n, e := b.g.Node(1, parts...); n != 0 || e != api.ErrBig {
				t.Errorf("Node of %v is %d, %v", parts, n, e)
			}
		}
	}
	for count := 3; count < 3000; count *= 3 {
		if n, e := b.g.Node(1, make([]int, count)...); n != 0 || e != api.ErrBig {
			t.Errorf("Node of %d parts is %d, %v", count, n, e)
		}
	}
	b.holds()
}

func TestMergeErrors(t *testing.T) {
	b := newBoth(t)
	b.merge(0, 0, 1)
	x, y := b.node(1), b.node(2)
	for _, s := range strangers(2) {
		for _, why := range []int{0, 5, -1} {
			b.merge(s, x, why)
			b.merge(x, s, why)
			b.merge(s, s, why)
		}
	}
	for _, why := range []int{-1, -2, math.MinInt} {
		b.merge(x, y, why)
		b.merge(x, x, why)
	}
	b.holds()
	differ(t, b.g, x, y)
	b.merge(x, y, 0)
	same(t, b.g, x, y, 0)
}

// Reasons are any numbers from 0 on, and may be told for several merges.
func TestReasons(t *testing.T) {
	for _, why := range []int{0, 1, 1 << 40, math.MaxInt} {
		b := newBoth(t)
		w, x, y, z := b.node(1), b.node(2), b.node(3), b.node(4)
		b.merge(x, y, why)
		b.merge(y, z, why)
		same(t, b.g, x, z, why)
		same(t, b.g, w, w)
		differ(t, b.g, w, z)
		b.holds()
	}
}

// What is the same already is so by the reasons of old, and is merged all the same.
func TestMergedTwice(t *testing.T) {
	b := newBoth(t)
	x, y := b.node(1), b.node(2)
	b.merge(x, x, 3)
	same(t, b.g, x, x)
	b.merge(x, y, 4)
	b.merge(x, y, 5)
	b.merge(y, x, 2)
	b.merge(y, y, 1)
	b.holds()
}

// It goes both ways, and on.
func TestGoesBothWaysAndOn(t *testing.T) {
	b := newBoth(t)
	var l []int
	for fn := range 8 {
		l = append(l, b.node(fn))
	}
	b.merge(l[0], l[1], 30)
	b.merge(l[2], l[1], 10)
	b.merge(l[3], l[2], 20)
	b.merge(l[5], l[6], 40)
	same(t, b.g, l[0], l[3], 10, 20, 30)
	same(t, b.g, l[3], l[0], 10, 20, 30)
	same(t, b.g, l[1], l[3], 10, 20)
	differ(t, b.g, l[0], l[5])
	b.merge(l[6], l[0], 0)
	same(t, b.g, l[5], l[3], 0, 10, 20, 30, 40)
	b.holds()
}

// Two of one function are the same if their parts are, one by one: not if one of
// them isn't, nor if they are crosswise.
func TestPartsOneByOne(t *testing.T) {
	b := newBoth(t)
	w, x, y, z := b.node(1), b.node(2), b.node(3), b.node(4)
	wx, yz, zy := b.node(9, w, x), b.node(9, y, z), b.node(9, z, y)
	other := b.node(8, y, z)
	b.merge(w, y, 1)
	differ(t, b.g, wx, yz)
	b.merge(x, z, 2)
	same(t, b.g, wx, yz, 1, 2)
	differ(t, b.g, wx, zy)
	differ(t, b.g, other, yz)
	b.merge(x, y, 3)
	same(t, b.g, zy, zy)
	if !b.g.Same(wx, zy) {
		t.Error("parts that are all the same")
	}
	b.holds()
}

// What is made behind a merge is the same as well.
func TestMadeBehindMerges(t *testing.T) {
	b := newBoth(t)
	x, y := b.node(1), b.node(2)
	fx := b.node(5, x)
	b.merge(x, y, 7)
	fy := b.node(5, y)
	same(t, b.g, fx, fy, 7)
	ffy, ffx := b.node(5, fy), b.node(5, fx)
	same(t, b.g, ffx, ffy, 7)
	gxy, gyx := b.node(6, x, fy), b.node(6, y, fx)
	same(t, b.g, gxy, gyx, 7)
	b.holds()
}

// A node may be the same as what it is a part of.
func TestRoundAndRound(t *testing.T) {
	b := newBoth(t)
	a := b.node(1)
	fa := b.node(5, a)
	ffa := b.node(5, fa)
	b.merge(a, fa, 3)
	same(t, b.g, a, ffa, 3)
	same(t, b.g, fa, ffa, 3)
	b.holds()
	g := b.node(6, a, ffa)
	b.merge(g, a, 4)
	same(t, b.g, b.node(6, fa, g), ffa, 3, 4)
	b.holds()
}

// Merges that follow from merges that follow.
func TestWhatFollowsGoesOn(t *testing.T) {
	b := newBoth(t)
	x, y, z := b.node(1), b.node(2), b.node(3)
	fx, fy := b.node(5, x), b.node(5, y)
	gx, gy := b.node(6, fx, z), b.node(6, fy, z)
	b.merge(gx, x, 1)
	b.merge(gy, z, 2)
	differ(t, b.g, x, z)
	b.merge(x, y, 3)
	same(t, b.g, x, z, 1, 2, 3)
	if !b.g.Same(b.node(5, z), fy) {
		t.Error("f of z")
	}
	b.holds()
}

func TestNilGraph(t *testing.T) {
	var g *congr.Graph
	for _, n := range []int{math.MinInt, -1, 0, 1} {
		for _, parts := range [][]int{nil, {n}, {n, n}, {n, n, n}} {
			if m, e := g.Node(n, parts...); m != 0 || e != api.ErrNil {
				t.Error("Node", m, e)
			}
		}
		if e := g.Merge(n, n, n); e != api.ErrNil {
			t.Error("Merge", e)
		}
		if l, e := g.Class(n); len(l) > 0 || e != api.ErrNil {
			t.Error("Class", l, e)
		}
		if l, e := g.Explain(n, n); len(l) > 0 || e != api.ErrNil {
			t.Error("Explain", l, e)
		}
		if g.Same(n, n) {
			t.Error("Same")
		}
	}
	g.Push()
	if e := g.Pop(); e != api.ErrNil || g.Count() != 0 {
		t.Error("Pop, Count", e, g.Count())
	}
}

// A graph that nobody made has no node, and can be told all the same.
func TestZeroGraph(t *testing.T) {
	b := both{t, &congr.Graph{}, &model{}}
	b.holds()
	b.pop()
	b.push()
	x, y := b.node(1), b.node(2)
	fx, fy := b.node(5, x), b.node(5, y)
	b.merge(x, y, 7)
	same(t, b.g, fx, fy, 7)
	b.holds()
	b.pop()
	b.holds()
}

// The chapter's examples.
func TestExamples(t *testing.T) {
	g := congr.New()
	a, _ := g.Node(1)
	b, _ := g.Node(2)
	fa, _ := g.Node(5, a)
	fb, _ := g.Node(5, b)
	if e := g.Merge(a, b, 7); e != api.OK {
		t.Error("Merge", e)
	}
	same(t, g, fa, fb, 7)

	for _, order := range [][2]int{{3, 5}, {5, 3}} {
		g = congr.New()
		l := []int{0}
		l[0], _ = g.Node(1)
		for i := range 5 {
			n, _ := g.Node(5, l[i])
			l = append(l, n)
		}
		g.Merge(l[order[0]], l[0], order[0])
		differ(t, g, l[1], l[0])
		g.Merge(l[order[1]], l[0], order[1])
		same(t, g, l[1], l[0], 3, 5)
	}
}

// Rule 4: lists that are handed in aren't changed, their spare room neither, and
// not kept; answers are new memory.
func TestMemory(t *testing.T) {
	g := congr.New()
	x, _ := g.Node(1)
	y, _ := g.Node(2)
	parts := []int{x, y, 99, 98}
	n, _ := g.Node(5, parts[:2]...)
	if !slices.Equal(parts, []int{x, y, 99, 98}) {
		t.Error("Node changes what it is given", parts)
	}
	parts[0], parts[1] = y, x
	if m, e := g.Node(5, x, y); m != n || e != api.OK {
		t.Error("Node keeps what it is given", m, e)
	}
	m, _ := g.Node(5, y, x)
	g.Merge(x, y, 3)
	g.Merge(m, x, 4)
	want := all(g)
	for range 2 {
		class, _ := g.Class(x)
		reasons, _ := g.Explain(n, x)
		clear(class[:cap(class)])
		clear(reasons[:cap(reasons)])
		if all(g) != want {
			t.Fatal("an answer is a piece of the graph")
		}
	}
	class, _ := g.Class(x)
	reasons, _ := g.Explain(n, x)
	z, _ := g.Node(9)
	g.Merge(z, n, 1)
	if !slices.Equal(class, []int{x, y, n, m}) || !slices.Equal(reasons, []int{3, 4}) {
		t.Error("answers that changed", class, reasons)
	}
}

// What one graph is told is nothing to another one.
func TestGraphsAreApart(t *testing.T) {
	one, two := newBoth(t), newBoth(t)
	for fn := range 3 {
		one.node(fn)
		two.node(fn)
	}
	one.merge(0, 1, 3)
	two.push()
	two.merge(1, 2, 4)
	one.node(7, 0)
	one.holds()
	two.holds()
	two.pop()
	one.pop()
	one.holds()
	two.holds()
}
