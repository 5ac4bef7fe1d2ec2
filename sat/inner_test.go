package sat

import (
	"math/rand"
	"slices"
	"testing"
)

// The tests of this file look inside: what must hold of a solver between its calls,
// and of its parts.

// followsFrom: is a clause so by all values by which some others are? The variables
// are few.
func followsFrom(vars int, clauses [][]literal, c []literal) bool {
	for bits := range 1 << vars {
		so := func(l literal) bool { return (bits>>l.place()&1 == 1) == l.so() }
		all := !slices.ContainsFunc(clauses, func(c []literal) bool { return !slices.ContainsFunc(c, so) })
		if all && !slices.ContainsFunc(c, so) {
			return false
		}
	}
	return true
}

// sound holds a solver against what was added to it.
func sound(t *testing.T, s *Solver, added [][]literal) {
	t.Helper()
	if len(s.starts) != 0 || len(s.touched) != 0 {
		t.Fatal("something is still tried")
	}
	if s.broken {
		if !followsFrom(len(s.vars), added, nil) {
			t.Fatal("the clauses are broken, but can be")
		}
		if s.Clauses() != 0 || s.Learned() != 0 {
			t.Fatal("clauses are kept without need")
		}
		return
	}
	if s.head != len(s.trail) {
		t.Fatal("the trail isn't followed")
	}
	watched(t, s)
	ordered(t, s)
	for _, l := range s.trail {
		if !followsFrom(len(s.vars), added, []literal{l}) {
			t.Fatalf("%v doesn't follow", l)
		}
	}
	for _, c := range s.learnt {
		if !followsFrom(len(s.vars), added, c.lits) {
			t.Fatalf("%v doesn't follow", c.lits)
		}
	}
	var kept [][]literal
	for _, c := range s.clauses {
		kept = append(kept, c.lits)
	}
	for _, l := range s.trail {
		kept = append(kept, []literal{l})
	}
	for _, c := range added {
		if !followsFrom(len(s.vars), kept, c) {
			t.Fatalf("%v is forgotten", c)
		}
		if !s.stale && !taut(c) && !slices.ContainsFunc(c, func(l literal) bool { return s.modelled(l) > 0 }) {
			t.Fatalf("%v isn't so by the model", c)
		}
	}
}

func taut(c []literal) bool {
	return slices.ContainsFunc(c, func(l literal) bool { return slices.Contains(c, l.opposite()) })
}

// watched: is each clause watched by its first two literals, of which neither is
// known to be not so, unless the clause is?
func watched(t *testing.T, s *Solver) {
	t.Helper()
	count := map[*clause]int{}
	for l, list := range s.watches {
		for _, w := range list {
			if w.clause.gone || !slices.Contains(w.clause.lits[:2], literal(l)) || w.other == literal(l) {
				t.Fatal("a clause is watched in vain")
			}
			if !slices.Contains(w.clause.lits, w.other) && s.values[w.other] >= 0 {
				t.Fatal("a clause is watched with another's literal")
			}
			count[w.clause]++
		}
	}
	all := slices.Concat(s.clauses, s.learnt)
	for _, c := range all {
		if count[c] != 2 || len(c.lits) < 2 {
			t.Fatalf("%v is watched %d times", c.lits, count[c])
		}
		so := slices.ContainsFunc(c.lits, func(l literal) bool { return s.values[l] > 0 })
		if !so && (s.values[c.lits[0]] < 0 || s.values[c.lits[1]] < 0) {
			t.Fatalf("%v is watched where it isn't so", c.lits)
		}
	}
	if len(count) != len(all) {
		t.Fatal("clauses are watched that aren't there")
	}
}

// ordered: is each variable without a value in the heap, once, below no lighter one?
func ordered(t *testing.T, s *Solver) {
	t.Helper()
	o := &s.order
	for v := range s.vars {
		if s.vars[v].seen {
			t.Fatal("a variable is seen")
		}
		at := o.where[v]
		if at < 0 && s.values[literalOf(v, true)] == 0 || at >= 0 && o.heap[at] != v {
			t.Fatalf("the variable %d is in no heap", v)
		}
	}
	for at, v := range o.heap {
		if at > 0 && o.weight[o.heap[(at-1)/2]] < o.weight[v] {
			t.Fatal("the heap is out of order")
		}
	}
}

func pick(r *rand.Rand, vars, count int) []int {
	var l []int
	for range count {
		l = append(l, (1+r.Intn(vars))*(1-2*r.Intn(2)))
	}
	return l
}

func TestSound(t *testing.T) {
	conflicts, learnt, cleaned := 0, 0, 0
	for seed := range 300 {
		r := rand.New(rand.NewSource(int64(seed)))
		vars := 3 + seed%7
		s := New()
		for range vars {
			s.NewVar()
		}
		var added [][]literal
		for range 5 * vars {
			c := pick(r, vars, 3)
			if r.Intn(4*vars) == 0 {
				c = c[:1]
			}
			s.Add(c...)
			added = append(added, literals(c...))
			sound(t, s, added)
			switch r.Intn(5) {
			case 0:
				before := s.Learned()
				s.Reduce()
				if s.Learned() > before/2 {
					t.Fatalf("Reduce leaves %d of %d", s.Learned(), before)
				}
			case 1, 2:
				s.Solve(pick(r, vars, r.Intn(4))...)
				learnt = max(learnt, s.Learned())
				cleaned = max(cleaned, s.cleaned)
			}
			sound(t, s, added)
		}
		conflicts += s.conflicts
	}
	if conflicts < 300 || learnt < 3 || cleaned < 5 {
		t.Errorf("%d conflicts, %d clauses that were learnt, %d values", conflicts, learnt, cleaned)
	}
}

// What is learnt stays from question to question, and is of use then.
func TestLearntStays(t *testing.T) {
	r := rand.New(rand.NewSource(5))
	s := New()
	const vars = 120
	for range vars {
		s.NewVar()
	}
	for range vars * 4 {
		s.Add(pick(r, vars, 3)...)
	}
	s.Solve(1, 2, 3)
	first := s.conflicts
	s.Solve(1, 2, 3)
	if second := s.conflicts - first; first < 10 || s.Learned() == 0 || second > first/2 {
		t.Errorf("%d conflicts, then %d; %d clauses were learnt", first, second, s.Learned())
	}
}

// Clauses are forgotten as time goes by, but none by which a literal has its value.
func TestForget(t *testing.T) {
	s := New()
	const count = 40
	for range 3 * count {
		s.NewVar()
	}
	s.open()
	s.assign(literalOf(0, false), nil)
	var reasons []*clause
	for i := 1; i < count; i++ {
		c := &clause{lits: literals(i+1, 1), glue: i % 5, made: i, learnt: true}
		d := &clause{lits: literals(count+i, -1), glue: i % 5, made: count + i, learnt: true}
		s.learnt = append(s.learnt, c, d)
		s.attach(c)
		s.attach(d)
		reasons = append(reasons, c)
	}
	if s.follow() != nil {
		t.Fatal("a conflict")
	}
	before := len(s.learnt)
	for range 10 {
		s.forget()
	}
	for _, c := range reasons {
		if c.gone || !slices.Contains(s.learnt, c) || !s.locked(c) {
			t.Fatal("a reason is forgotten")
		}
	}
	if len(s.learnt) == before {
		t.Errorf("%d clauses are left, of which %d are reasons", before, len(reasons))
	}
	watched(t, s)
	s.back(0)
	for want := len(s.learnt) / 2; want > 0; want /= 2 {
		if s.Reduce(); len(s.learnt) != want {
			t.Fatalf("%d clauses are left, not %d", len(s.learnt), want)
		}
		watched(t, s)
	}
}

// The best of what was learnt stay: of the fewest levels, and of those the last used.
func TestForgetWorst(t *testing.T) {
	s := New()
	for range 20 {
		s.NewVar()
	}
	for i, glue := range []int{5, 2, 3, 2, 9, 2} {
		c := &clause{lits: literals(1+i, 10+i), glue: glue, made: i, used: 10 - i, learnt: true}
		s.learnt = append(s.learnt, c)
		s.attach(c)
	}
	s.learnt[5].used = 20
	s.forget()
	var made []int
	for _, c := range s.learnt {
		made = append(made, c.made)
	}
	if !slices.Equal(made, []int{5, 1, 3}) {
		t.Error("what stays is", made)
	}
}

// While 1 isn't so, each two of the others must be, which is learnt of each two, and
// needed as long as 1 is assumed: more than may be kept.
func TestLearntMuch(t *testing.T) {
	const pairs = MostLearned + 3000
	s := New()
	for range 2*pairs + 1 {
		s.NewVar()
	}
	for i := range pairs {
		x, y := 2+2*i, 3+2*i
		s.Add(1, x, y)
		s.Add(1, x, -y)
		s.Add(1, -x, y)
	}
	for range 2 {
		if so, _ := s.Solve(-1); !so {
			t.Error("pairs can't be")
		}
		for v := range 2*pairs + 1 {
			if s.Value(v+1) != (v > 0) {
				t.Fatalf("Value(%d) is %v", v+1, s.Value(v+1))
			}
		}
		if s.conflicts < pairs || s.Learned() != MostLearned {
			t.Errorf("of %d clauses that were learnt %d are kept", s.conflicts, s.Learned())
		}
		if so, _ := s.Solve(-1, 2, -3); so || s.Core()[0] != -1 {
			t.Error("the core is", s.Core())
		}
		if so, _ := s.Solve(-2, 3); !so || !s.Value(1) {
			t.Error("1 isn't so")
		}
		watched(t, s)
	}
}

func TestRow(t *testing.T) {
	want := []int{1, 1, 2, 1, 1, 2, 4, 1, 1, 2, 1, 1, 2, 4, 8}
	for i, n := range want {
		if row(i+1) != n {
			t.Errorf("row(%d) is %d, not %d", i+1, row(i+1), n)
		}
	}
	for k := range 30 {
		if n := row(1<<(k+1) - 1); n != 1<<k {
			t.Errorf("the piece %d ends with %d", k, n)
		}
	}
}

// The heap answers as a plain list does.
func TestOrder(t *testing.T) {
	for seed := range 50 {
		r := rand.New(rand.NewSource(int64(seed)))
		var o order
		const vars = 30
		for range vars {
			o.add()
		}
		there := make([]bool, vars)
		for v := range there {
			there[v] = true
		}
		for range 3000 {
			switch v := r.Intn(vars); r.Intn(4) {
			case 0:
				o.put(v)
				there[v] = true
			case 1:
				taken(t, &o, there)
			default:
				o.grow()
				o.gain(v)
			}
		}
		if o.step == 0 || slices.Max(o.weight) > heaviest {
			t.Fatal("weights grow beyond their bound")
		}
		for range vars + 1 {
			taken(t, &o, there)
		}
	}
}

func taken(t *testing.T, o *order, there []bool) {
	t.Helper()
	var most uint64
	for v, ok := range there {
		if ok {
			most = max(most, o.weight[v])
		}
	}
	v, ok := o.take()
	if ok != slices.Contains(there, true) {
		t.Fatal("take is", ok)
	}
	if ok && (!there[v] || o.weight[v] != most) {
		t.Fatalf("take is %d", v)
	}
	if ok {
		there[v] = false
	}
}
