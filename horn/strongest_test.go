package horn_test

import (
	"slices"
	"testing"

	"whetstone/base"
	"whetstone/formula"
	"whetstone/gen"
	"whetstone/horn"
	"whetstone/linear"
	"whetstone/smt"
)

// judge is a second reading of the chapter, that asks of one condition and one Inst
// at a time.
type judge struct {
	table  *base.Table
	places []kap
	heads  []gen.Cons // the conditions whose Head is the Use of a place
	solver *smt.Solver
}

func newJudge(table *base.Table, parts []horn.Part, places []kap) *judge {
	j := &judge{table: table, places: places, solver: smt.New()}
	for _, p := range parts {
		for _, c := range p.Cons {
			if c.Head.IsK && slices.Contains(places, c.Head.Use.K) {
				j.heads = append(j.heads, c)
			}
		}
	}
	return j
}

// is: an Inst's predicate, of a Use.
func (j *judge) is(x inst, u gen.Use) formula.F {
	q, _ := j.table.Qual(x.Qual)
	var nums []gen.Named
	for i, p := range q.Params {
		if i == 0 {
			nums = append(nums, gen.Named{Name: p.Name, T: u.Args[0]})
		} else {
			nums = append(nums, gen.Named{Name: p.Name, T: u.Args[1+x.At[i-1]]})
		}
	}
	return gen.Pred(q.Body, nums, nil)
}

// known: what a condition's Hyps say.
func (j *judge) known(c gen.Cons, s sol) []formula.F {
	var l []formula.F
	for _, h := range c.Hyps {
		if !h.IsK {
			l = append(l, formula.If(h.If, h.F))
			continue
		}
		for _, x := range s[h.Use.K] {
			l = append(l, formula.If(h.If, j.is(x, h.Use)))
		}
	}
	return l
}

// follows: does an Inst of its place hold by a condition?
func (j *judge) follows(c gen.Cons, x inst, s sol) bool {
	so, _ := j.solver.Valid(j.known(c, s), j.is(x, c.Head.Use), c.Apps)
	return so
}

// holds: do all conditions?
func (j *judge) holds(s sol) bool {
	for _, c := range j.heads {
		for _, x := range s[c.Head.Use.K] {
			if !j.follows(c, x, s) {
				return false
			}
		}
	}
	return true
}

// all is what is tried, of all places.
func (j *judge) all() []tries {
	var l []tries
	for _, k := range j.places {
		for _, x := range horn.Insts(j.table, k) {
			l = append(l, tries{k, x})
		}
	}
	return l
}

// tries is an Inst that is tried for a place.
type tries struct {
	k kap
	x inst
}

// chosen is a choice of them: those whose bit is set.
func chosen(l []tries, bits int) sol {
	s := sol{}
	for i, x := range l {
		if bits>>i&1 > 0 {
			s[x.k] = append(s[x.k], x.x)
		}
	}
	return s
}

// strongest is what any choice has that lets all conditions hold.
func (j *judge) strongest(l []tries) sol {
	union := 0
	for bits := range 1 << len(l) {
		if bits|union != union && j.holds(chosen(l, bits)) {
			union |= bits
		}
	}
	return chosen(l, union)
}

// TestStrongest: of all choices.
func TestStrongest(t *testing.T) {
	done, some, less := 0, 0, 0
	for seed := int64(0); done < 600; seed++ {
		text := newMaker(seed).text(2, 3)
		table := rightTable(t, text)
		j := newJudge(table, partsOf(table), placesOf(table))
		l := j.all()
		if len(l) == 0 || len(l) > 9 {
			continue
		}
		done++
		got, want := solText(table, solved(table)), solText(table, j.strongest(l))
		if got != want {
			t.Fatalf("%s\n  got %s\n  not %s", text, got, want)
		}
		if want != "" {
			some++
		}
		if want != solText(table, chosen(l, 1<<len(l)-1)) {
			less++
		}
	}
	if some < 100 || less < 100 {
		t.Error("drawn one-sidedly:", some, less)
	}
}

// weakened is the strongest solution by sweeps: what doesn't hold by one condition is
// struck out, until nothing is.
func (j *judge) weakened() sol {
	s := sol{}
	for _, x := range j.all() {
		s[x.k] = append(s[x.k], x.x)
	}
	for again := true; again; {
		again = false
		for _, c := range j.heads {
			k := c.Head.Use.K
			before := len(s[k])
			s[k] = slices.DeleteFunc(slices.Clone(s[k]), func(x inst) bool { return !j.follows(c, x, s) })
			again = again || len(s[k]) < before
		}
	}
	return s
}

// TestStrongestOfMany: with more qualifiers and functions than all choices of them
// could be gone through.
func TestStrongestOfMany(t *testing.T) {
	for seed := range int64(600) {
		text := newMaker(20000+seed).text(7, 5)
		table := rightTable(t, text)
		j := newJudge(table, partsOf(table), placesOf(table))
		if got, want := solText(table, solved(table)), solText(table, j.weakened()); got != want {
			t.Fatalf("%s\n  got %s\n  not %s", text, got, want)
		}
	}
}

// TestNoMore: conditions hold by a solution; with an Inst more, or any of those that
// are left, one doesn't.
func TestNoMore(t *testing.T) {
	more := 0
	for seed := range int64(600) {
		m := newMaker(40000 + seed)
		text := m.text(4, 3)
		table := rightTable(t, text)
		j := newJudge(table, partsOf(table), placesOf(table))
		s := solved(table)
		if !j.holds(s) {
			t.Fatalf("%s\n  a condition doesn't hold by %s", text, solText(table, s))
		}
		var left []tries
		for _, x := range j.all() {
			if !slices.ContainsFunc(s[x.k], func(y inst) bool { return instText(table, y) == instText(table, x.x) }) {
				left = append(left, x)
			}
		}
		for i := range left {
			for _, some := range [][]tries{left[i : i+1], left[i:]} {
				with := copied(s)
				for _, x := range some {
					with[x.k] = append(with[x.k], x.x)
				}
				if j.holds(with) {
					t.Fatalf("%s\n  all conditions hold by %s", text, solText(table, with))
				}
				more++
			}
		}
	}
	if more < 1000 {
		t.Error("few were tried:", more)
	}
}

// TestOrder: neither that of parts, of conditions, of places, nor what was asked
// ahead says anything.
func TestOrder(t *testing.T) {
	asked := horn.New()
	for seed := range int64(200) {
		m := newMaker(60000 + seed)
		text := m.text(4, 4)
		table := rightTable(t, text)
		want := solText(table, solved(table))
		for range 3 {
			parts, places := partsOf(table), placesOf(table)
			m.Shuffle(len(parts), func(i, j int) { parts[i], parts[j] = parts[j], parts[i] })
			for _, p := range parts {
				m.Shuffle(len(p.Cons), func(i, j int) { p.Cons[i], p.Cons[j] = p.Cons[j], p.Cons[i] })
			}
			m.Shuffle(len(places), func(i, j int) { places[i], places[j] = places[j], places[i] })
			// A part may come in two, and twice.
			if len(parts) > 0 && m.Intn(2) == 0 {
				p := parts[0]
				n := m.Intn(len(p.Cons) + 1)
				parts = append(parts, horn.Part{Fn: p.Fn, Cons: p.Cons[n:]}, parts[len(parts)-1])
				parts[0].Cons = p.Cons[:n:n]
			}
			places = append(places, places[:m.Intn(len(places)+1)]...)
			s := sol{}
			asked.Solve(table, parts, places, s)
			if got := solText(table, s); got != want {
				t.Fatalf("%s\n  got %s\n  not %s", text, got, want)
			}
		}
	}
}

// TestHoldsDrawn: whatever was asked ahead, by solutions that are drawn too.
func TestHoldsDrawn(t *testing.T) {
	asked := horn.New()
	so := map[bool]int{}
	for seed := range int64(1500) {
		m := newMaker(80000 + seed)
		text := m.text(4, 3)
		table := rightTable(t, text)
		j := newJudge(table, nil, placesOf(table))
		l := j.all()
		for _, p := range partsOf(table) {
			for n, c := range p.Cons {
				if c.Head.IsK {
					continue
				}
				s := chosen(l, m.Int()&m.Int())
				want, _ := smt.New().Valid(j.known(c, s), c.Head.F, c.Apps)
				so[want]++
				if asked.Holds(table, c, n, s) != want {
					t.Fatalf("%s\n  condition %d of %s by %s: not %v", text, n, p.Fn, solText(table, s), want)
				}
			}
		}
	}
	if so[true] < 100 || so[false] < 100 {
		t.Error("drawn one-sidedly:", so)
	}
}

// TestGreatNumbers: nothing is too great.
func TestGreatNumbers(t *testing.T) {
	answers(t, `qual p(a) = a >= 9999999999999999999999999999999999999999; qual o(a) = a > 9999999999999999999999999999999999999999; qual t(a, b) = a = 9999999999999999999999999999999999999999 * b;
		fn f(y: int, x: int) -> int = x; pub fn g(x: int{v > 0}) -> int = f(x, 9999999999999999999999999999999999999999 * x) + f(0, 0); fn h(x: int{v > 0}) -> int = x * 9999999999999999999999999999999999999999; pub fn k() -> int = h(1);`,
		"f.-1: t(0); f.1: t(0); h.-1: p() t(0)")
	table := rightTable(t, "qual p(a) = a > 0; fn f() -> int = 1;")
	if got := formula.Text(horn.Formula(table, inst{}, []term{linear.Var(1 << 40)})); got != "(-1*x1099511627776+1 <= 0)" {
		t.Error(got)
	}
}
