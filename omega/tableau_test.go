package omega

import (
	mathbig "math/big"
	"math/rand"
	"testing"

	"whetstone/big"
	"whetstone/linear"
)

// plane is a sum of two variables.
func plane(a, b int64) linear.Term {
	return linear.Add(linear.Scale(linear.Var(0), big.Of(a)), linear.Scale(linear.Var(1), big.Of(b)))
}

// someStrips are strips of two variables; if they are boxed, with an end on all
// sides. None has one value alone.
func someStrips(r *rand.Rand, boxed bool) *system {
	y := newSystem()
	within := func(n int64) int64 { return r.Int63n(2*n+1) - n }
	if boxed {
		for _, c := range []linear.Term{plane(1, 0), plane(-1, 0), plane(0, 1), plane(0, -1)} {
			y.add(cond{t: linear.Add(c, linear.Of(big.Of(9))), why: []int{0}})
		}
	}
	for i := range 1 + r.Intn(6) {
		y.add(cond{t: linear.Add(plane(within(7), within(7)), linear.Of(big.Of(within(20)))), why: []int{i + 1}})
	}
	return y
}

type spot struct{ x, y *mathbig.Rat }

func (p spot) of(t *testing.T, s linear.Term) *mathbig.Rat {
	t.Helper()
	a := new(mathbig.Rat).Mul(rat(t, linear.Coef(s, 0)), p.x)
	return a.Add(a, new(mathbig.Rat).Mul(rat(t, linear.Coef(s, 1)), p.y))
}

// lies: is a spot within all strips?
func (p spot) lies(t *testing.T, y *system) bool {
	t.Helper()
	for _, s := range y.strips {
		n := p.of(t, s.t)
		if s.low.there && n.Cmp(rat(t, s.low.n)) < 0 || s.high.there && n.Cmp(rat(t, s.high.n)) > 0 {
			return false
		}
	}
	return true
}

// corners are all spots in which two ends of strips meet, and that are within all.
func corners(t *testing.T, y *system) []spot {
	t.Helper()
	var ends []linear.Term // each is 0
	for _, s := range y.strips {
		for _, b := range []bound{s.low, s.high} {
			if b.there {
				ends = append(ends, linear.Sub(s.t, linear.Of(b.n)))
			}
		}
	}
	var out []spot
	for i, e := range ends {
		for _, f := range ends[:i] {
			a, b, c := rat(t, linear.Coef(e, 0)), rat(t, linear.Coef(e, 1)), rat(t, e.Const)
			d, g, h := rat(t, linear.Coef(f, 0)), rat(t, linear.Coef(f, 1)), rat(t, f.Const)
			cross := func(a, b, c, d *mathbig.Rat) *mathbig.Rat {
				return new(mathbig.Rat).Sub(new(mathbig.Rat).Mul(a, d), new(mathbig.Rat).Mul(b, c))
			}
			base := cross(a, b, d, g)
			if base.Sign() == 0 {
				continue
			}
			p := spot{new(mathbig.Rat).Quo(cross(b, c, g, h), base), new(mathbig.Rat).Quo(cross(c, a, h, d), base)}
			if p.lies(t, y) {
				out = append(out, p)
			}
		}
	}
	return out
}

// With an end on all sides the most of a sum stands in a corner.
func TestMostInAShape(t *testing.T) {
	r := rand.New(rand.NewSource(2))
	empty := 0
	for range 1500 {
		y := someStrips(r, true)
		if y.broken {
			continue
		}
		all := corners(t, y)
		tab := newTableau(y, 2)
		if why, ok := tab.settle(); ok != (len(all) > 0) {
			t.Fatalf("settle of %v: %v, %v", y.strips, why, ok)
		}
		if len(all) == 0 {
			empty++
			continue
		}
		for range 4 {
			sum := plane(r.Int63n(9)-4, r.Int63n(9)-4)
			got := tab.most(sum)
			if !got.edge.there {
				t.Fatalf("the most of %s has no end", linear.Text(sum))
			}
			// Rounded down: some corner comes up to it, none one beyond.
			reached := false
			for _, p := range all {
				n := p.of(t, sum)
				reached = reached || n.Cmp(rat(t, got.edge.n)) >= 0
				if n.Cmp(rat(t, big.Add(got.edge.n, big.Of(1)))) >= 0 {
					t.Fatalf("the most of %s isn't %s", linear.Text(sum), big.Text(got.edge.n))
				}
			}
			if !reached {
				t.Fatalf("the most of %s doesn't come to %s", linear.Text(sum), big.Text(got.edge.n))
			}
		}
	}
	if empty < 50 {
		t.Error("shapes without a spot:", empty)
	}
}

// Without an end a way is told on which all strips hold, and the sum grows.
func TestRays(t *testing.T) {
	r := rand.New(rand.NewSource(3))
	rays := 0
	for range 1500 {
		y := someStrips(r, false)
		tab := newTableau(y, 2)
		if y.broken {
			continue
		}
		if _, ok := tab.settle(); !ok {
			continue
		}
		sum := plane(r.Int63n(9)-4, r.Int63n(9)-4)
		got := tab.most(sum)
		if got.edge.there {
			continue
		}
		rays++
		if big.Sign(got.ray.of(sum)) <= 0 {
			t.Fatalf("%s doesn't grow on %v", linear.Text(sum), got.ray)
		}
		for _, s := range y.strips {
			n := big.Sign(got.ray.of(s.t))
			if s.low.there && n < 0 || s.high.there && n > 0 {
				t.Fatalf("%v leads out of %s", got.ray, s.key)
			}
		}
	}
	if rays < 300 {
		t.Error("sums without an end:", rays)
	}
}

// What is told to be the reason is one: the ends of these strips alone are enough.
func TestReasonsAreEnough(t *testing.T) {
	r := rand.New(rand.NewSource(4))
	for range 1500 {
		y := newSystem()
		whole := someStrips(r, true)
		for i, s := range whole.strips {
			s.low.why, s.high.why = []int{2 * i}, []int{2*i + 1}
			y.meet(s)
		}
		if y.broken {
			continue
		}
		tab := newTableau(y, 2)
		why, ok := tab.settle()
		sum := plane(r.Int63n(9)-4, r.Int63n(9)-4)
		edge := bound{}
		if ok {
			edge = tab.most(sum).edge
			why = edge.why
		}
		some := newSystem()
		for _, n := range why {
			s := y.strips[n/2]
			if n%2 == 0 {
				s.high = bound{}
			} else {
				s.low = bound{}
			}
			some.meet(s)
		}
		less := newTableau(some, 2)
		if _, again := less.settle(); again != ok {
			t.Fatalf("settle by %v: %v", why, again)
		}
		if got := less.most(sum).edge; ok && (!got.there || big.Cmp(got.n, edge.n) != 0) {
			t.Fatalf("the most of %s by %v: %v, not %v", linear.Text(sum), why, got, edge)
		}
	}
}
