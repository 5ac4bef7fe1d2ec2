package congr_test

import (
	"fmt"
	"math"
	"math/rand"
	"slices"
	"testing"

	"whetstone/api"
	"whetstone/congr"
)

// made is a node as the chapter has it, merge what two were merged for.
type made struct {
	fn    int
	parts []int
}

type merge struct{ n, m, why int }

// model is what a graph was told, and nothing that follows from it.
type model struct {
	nodes  []made
	merges []merge
	marks  [][2]int // how many nodes and merges there were
}

func (m *model) has(l ...int) bool {
	for _, n := range l {
		if n < 0 || n >= len(m.nodes) {
			return false
		}
	}
	return true
}

func (m *model) node(fn int, parts ...int) (int, api.Errno) {
	if len(parts) > 2 {
		return 0, api.ErrBig
	}
	if !m.has(parts...) {
		return 0, api.ErrArg
	}
	for i, x := range m.nodes {
		if x.fn == fn && slices.Equal(x.parts, parts) {
			return i, api.OK
		}
	}
	m.nodes = append(m.nodes, made{fn, slices.Clone(parts)})
	return len(m.nodes) - 1, api.OK
}

func (m *model) merge(x merge) api.Errno {
	if !m.has(x.n, x.m) || x.why < 0 {
		return api.ErrArg
	}
	m.merges = append(m.merges, x)
	return api.OK
}

func (m *model) push() { m.marks = append(m.marks, [2]int{len(m.nodes), len(m.merges)}) }

func (m *model) pop() api.Errno {
	last := len(m.marks) - 1
	if last < 0 {
		return api.ErrState
	}
	m.nodes, m.merges = m.nodes[:m.marks[last][0]], m.merges[:m.marks[last][1]]
	m.marks = m.marks[:last]
	return api.OK
}

// closure is a number for each node, the same just for those that are the same by
// some merges: the least relation, by going round till nothing more follows.
func closure(nodes []made, merges []merge) []int {
	number := make([]int, len(nodes))
	for i := range number {
		number[i] = i
	}
	join := func(a, b int) bool {
		from, to := number[a], number[b]
		for i, n := range number {
			if n == from {
				number[i] = to
			}
		}
		return from != to
	}
	alike := func(x, y made) bool {
		same := func(a, b int) bool { return number[a] == number[b] }
		return x.fn == y.fn && slices.EqualFunc(x.parts, y.parts, same)
	}
	for more := true; more; {
		more = false
		for _, x := range merges {
			more = join(x.n, x.m) || more
		}
		for i, x := range nodes {
			for j, y := range nodes[:i] {
				if alike(x, y) {
					more = join(i, j) || more
				}
			}
		}
	}
	return number
}

// strangers are no nodes, however many there are.
func strangers(count int) []int {
	return []int{math.MinInt, -2, -1, count, count + 1, math.MaxInt}
}

// holds wants all that a graph answers to be as the model has it.
func (m *model) holds(t *testing.T, g *congr.Graph) {
	t.Helper()
	if g.Count() != len(m.nodes) {
		t.Fatalf("%v: Count is %d", m, g.Count())
	}
	number := closure(m.nodes, m.merges)
	for i := range m.nodes {
		var class []int
		for j := range m.nodes {
			same := number[i] == number[j]
			if g.Same(i, j) != same {
				t.Fatalf("%v: Same(%d, %d) isn't %v", m, i, j, same)
			}
			if same {
				class = append(class, j)
			}
			m.explains(t, g, i, j, same)
		}
		if l, e := g.Class(i); e != api.OK || !slices.Equal(l, class) {
			t.Fatalf("%v: Class(%d) is %v, %v, not %v", m, i, l, e, class)
		}
	}
	m.strangersHold(t, g)
}

// explains wants an explanation that is enough, and holds reasons that are there.
func (m *model) explains(t *testing.T, g *congr.Graph, i, j int, same bool) {
	t.Helper()
	l, e := g.Explain(i, j)
	if !same {
		if e != api.ErrState || len(l) > 0 {
			t.Fatalf("%v: Explain(%d, %d) is %v, %v", m, i, j, l, e)
		}
		return
	}
	for at, why := range l {
		there := slices.ContainsFunc(m.merges, func(x merge) bool { return x.why == why })
		if !there || at > 0 && l[at-1] >= why {
			t.Fatalf("%v: Explain(%d, %d) is %v", m, i, j, l)
		}
	}
	if e != api.OK || i == j && len(l) > 0 {
		t.Fatalf("%v: Explain(%d, %d) is %v, %v", m, i, j, l, e)
	}
	if number := closure(m.nodes, m.merged(l)); number[i] != number[j] {
		t.Fatalf("%v: Explain(%d, %d) is %v, and that isn't enough", m, i, j, l)
	}
}

// merged is what was merged for some reasons.
func (m *model) merged(reasons []int) []merge {
	var l []merge
	for _, x := range m.merges {
		if slices.Contains(reasons, x.why) {
			l = append(l, x)
		}
	}
	return l
}

// strangersHold: of no node there is nothing.
func (m *model) strangersHold(t *testing.T, g *congr.Graph) {
	t.Helper()
	for _, s := range strangers(len(m.nodes)) {
		if l, e := g.Class(s); e != api.ErrArg || len(l) > 0 {
			t.Fatalf("Class(%d) of %d nodes is %v, %v", s, len(m.nodes), l, e)
		}
		for _, n := range append(strangers(len(m.nodes)), 0) {
			for _, p := range [][2]int{{s, n}, {n, s}} {
				if g.Same(p[0], p[1]) {
					t.Fatalf("Same(%d, %d) of %d nodes", p[0], p[1], len(m.nodes))
				}
				if l, e := g.Explain(p[0], p[1]); e != api.ErrArg || len(l) > 0 {
					t.Fatalf("Explain(%d, %d) of %d nodes is %v, %v", p[0], p[1], len(m.nodes), l, e)
				}
			}
		}
	}
}

// both is a graph and its model, which are told the same.
type both struct {
	t *testing.T
	g *congr.Graph
	m *model
}

func newBoth(t *testing.T) both { return both{t, congr.New(), &model{}} }

func (b both) node(fn int, parts ...int) int {
	b.t.Helper()
	n, e := b.g.Node(fn, parts...)
	if want, wantE := b.m.node(fn, parts...); n != want || e != wantE {
		b.t.Fatalf("%v: Node(%d, %v) is %d, %v, not %d, %v", b.m, fn, parts, n, e, want, wantE)
	}
	return n
}

func (b both) merge(n, m, why int) {
	b.t.Helper()
	e := b.g.Merge(n, m, why)
	if want := b.m.merge(merge{n, m, why}); e != want {
		b.t.Fatalf("%v: Merge(%d, %d, %d) is %v, not %v", b.m, n, m, why, e, want)
	}
}

func (b both) push() {
	b.g.Push()
	b.m.push()
}

func (b both) pop() {
	b.t.Helper()
	e := b.g.Pop()
	if want := b.m.pop(); e != want {
		b.t.Fatalf("%v: Pop is %v, not %v", b.m, e, want)
	}
}

func (b both) holds() {
	b.t.Helper()
	b.m.holds(b.t, b.g)
}

// same wants two nodes to be the same, for just these reasons.
func same(t *testing.T, g *congr.Graph, n, m int, reasons ...int) {
	t.Helper()
	if !g.Same(n, m) {
		t.Errorf("%d and %d aren't the same", n, m)
	}
	if l, e := g.Explain(n, m); e != api.OK || !slices.Equal(l, reasons) {
		t.Errorf("%d and %d are the same by %v, %v, not by %v", n, m, l, e, reasons)
	}
}

// differ wants two nodes not to be the same.
func differ(t *testing.T, g *congr.Graph, n, m int) {
	t.Helper()
	if l, e := g.Explain(n, m); g.Same(n, m) || e != api.ErrState || len(l) > 0 {
		t.Errorf("%d and %d are the same: %v, %v", n, m, l, e)
	}
}

// all is everything that a graph answers, as a text.
func all(g *congr.Graph) string {
	text := fmt.Sprintln(g.Count())
	for i := -1; i <= g.Count(); i++ {
		class, e := g.Class(i)
		text += fmt.Sprintln(i, class, e)
		for j := -1; j <= g.Count(); j++ {
			l, e := g.Explain(i, j)
			text += fmt.Sprintln(i, j, g.Same(i, j), l, e)
		}
	}
	return text
}

// maker makes calls of a fixed source.
type maker struct{ *rand.Rand }

func newMaker(seed int64) maker { return maker{rand.New(rand.NewSource(seed))} }

// pick is a node, or seldom none.
func (m maker) pick(count int) int {
	if count == 0 || m.Intn(25) == 0 {
		l := strangers(count)
		return l[m.Intn(len(l))]
	}
	return m.Intn(count)
}

func (m maker) why() int {
	switch m.Intn(12) {
	case 0:
		return math.MaxInt - m.Intn(2)
	case 1:
		return -1 - m.Intn(2)
	}
	return m.Intn(9)
}

func (m maker) fn() int {
	if m.Intn(12) == 0 {
		return []int{math.MinInt, math.MaxInt, -1, 0}[m.Intn(4)]
	}
	return m.Intn(3)
}

// addNode makes one of any count of parts, most often of few that are there.
func (m maker) addNode(b both) {
	b.t.Helper()
	count := []int{0, 0, 1, 1, 1, 2, 2, 2, 3, 5}[m.Intn(10)]
	if count > 2 && m.Intn(3) > 0 {
		count = 1
	}
	parts := make([]int, count)
	for i := range parts {
		parts[i] = m.pick(b.g.Count())
	}
	b.node(m.fn(), parts...)
}

func (m maker) addMerge(b both) {
	b.t.Helper()
	b.merge(m.pick(b.g.Count()), m.pick(b.g.Count()), m.why())
}
