package omega

import (
	mathbig "math/big"
	"math/rand"
	"slices"
	"testing"

	"whetstone/big"
	"whetstone/linear"
)

func rat(t *testing.T, n big.Int) *mathbig.Rat {
	t.Helper()
	r, ok := new(mathbig.Rat).SetString(big.Text(n))
	if !ok {
		t.Fatal("no number", n)
	}
	return r
}

// ratVector is the first numbers of a vector, or those behind them.
func ratVector(t *testing.T, v vector) []*mathbig.Rat {
	t.Helper()
	var out []*mathbig.Rat
	for _, n := range v {
		out = append(out, rat(t, n))
	}
	return out
}

func dot(a, b []*mathbig.Rat) *mathbig.Rat {
	sum := new(mathbig.Rat)
	for i := range a {
		sum.Add(sum, new(mathbig.Rat).Mul(a[i], b[i]))
	}
	return sum
}

func minus(a []*mathbig.Rat, n *mathbig.Rat, b []*mathbig.Rat) []*mathbig.Rat {
	var out []*mathbig.Rat
	for i := range a {
		out = append(out, new(mathbig.Rat).Sub(a[i], new(mathbig.Rat).Mul(n, b[i])))
	}
	return out
}

// orthogonal is what is new in each vector, and how much each leans on those ahead.
func orthogonal(rows [][]*mathbig.Rat) (parts, lean [][]*mathbig.Rat) {
	for _, row := range rows {
		var on []*mathbig.Rat
		part := row
		for _, p := range parts {
			n := new(mathbig.Rat)
			if square := dot(p, p); square.Sign() != 0 {
				n.Quo(dot(row, p), square)
			}
			on = append(on, n)
			part = minus(part, n, p)
		}
		parts, lean = append(parts, part), append(lean, on)
	}
	return parts, lean
}

// someBasis has numbers of any size, and the vectors of one behind them.
func someBasis(r *rand.Rand, n, wide int) []vector {
	most := int64(1) << (1 + r.Intn(40))
	var basis []vector
	for i := range n {
		v := make(vector, wide+n)
		for k := range wide {
			v[k] = big.Of(r.Int63n(2*most+1) - most)
		}
		v[wide+i] = big.Of(1)
		basis = append(basis, v)
	}
	return basis
}

func copied(basis []vector) []vector {
	var out []vector
	for _, v := range basis {
		out = append(out, slices.Clone(v))
	}
	return out
}

// isBasis: do the vectors hang on each other not at all?
func isBasis(t *testing.T, basis []vector, wide int) bool {
	t.Helper()
	var rows [][]*mathbig.Rat
	for _, v := range basis {
		rows = append(rows, ratVector(t, v[:wide]))
	}
	parts, _ := orthogonal(rows)
	return !slices.ContainsFunc(parts, func(p []*mathbig.Rat) bool { return dot(p, p).Sign() == 0 })
}

// checkReduced wants vectors that are at most half on those ahead, and none much
// shorter than the one ahead.
func checkReduced(t *testing.T, basis []vector, wide int) {
	t.Helper()
	var rows [][]*mathbig.Rat
	for _, v := range basis {
		rows = append(rows, ratVector(t, v[:wide]))
	}
	parts, lean := orthogonal(rows)
	half := mathbig.NewRat(1, 2)
	for i, on := range lean {
		for _, n := range on {
			if new(mathbig.Rat).Abs(n).Cmp(half) > 0 {
				t.Fatalf("vector %d leans too much: %v", i, n)
			}
		}
		if i == 0 {
			continue
		}
		ahead := dot(parts[i-1], parts[i-1])
		both := new(mathbig.Rat).Mul(new(mathbig.Rat).Mul(on[i-1], on[i-1]), ahead)
		both.Add(both, dot(parts[i], parts[i]))
		if both.Cmp(new(mathbig.Rat).Mul(mathbig.NewRat(3, 4), ahead)) < 0 {
			t.Fatalf("vector %d is much shorter than the one ahead", i)
		}
	}
}

// checkSteps wants that what stands behind tells each vector by those of old, and
// those of old by it: whole steps, there and back.
func checkSteps(t *testing.T, old, basis []vector, wide int) {
	t.Helper()
	var behind [][]*mathbig.Rat
	for _, v := range basis {
		made := make(vector, wide)
		for k, o := range old {
			for i := range wide {
				made[i] = big.Add(made[i], big.Mul(v[wide+k], o[i]))
			}
		}
		for i := range wide {
			if big.Cmp(made[i], v[i]) != 0 {
				t.Fatalf("a vector isn't made of those of old: %v", v)
			}
		}
		behind = append(behind, ratVector(t, v[wide:]))
	}
	// The determinant's square is 1: it is the product of what is new in each.
	parts, _ := orthogonal(behind)
	square := mathbig.NewRat(1, 1)
	for _, p := range parts {
		square.Mul(square, dot(p, p))
	}
	if square.Cmp(mathbig.NewRat(1, 1)) != 0 {
		t.Fatalf("the steps can't be gone back: %v", square)
	}
}

func TestReduce(t *testing.T) {
	r := rand.New(rand.NewSource(1))
	for range 300 {
		n := 1 + r.Intn(5)
		wide := n + r.Intn(4)
		basis := someBasis(r, n, wide)
		if !isBasis(t, basis, wide) {
			continue
		}
		old := copied(basis)
		reduce(basis, wide)
		checkSteps(t, old, basis, wide)
		checkReduced(t, basis, wide)
	}
}

func TestReduceOfNothing(t *testing.T) { reduce(nil, 0) }

// rank is how many of the strips' sums don't hang on those ahead.
func rank(t *testing.T, y *system) int {
	t.Helper()
	vars := y.variables()
	var rows [][]*mathbig.Rat
	for _, s := range y.strips {
		var row []*mathbig.Rat
		for _, v := range vars {
			row = append(row, rat(t, linear.Coef(s.t, v)))
		}
		rows = append(rows, row)
	}
	parts, _ := orthogonal(rows)
	count := 0
	for _, p := range parts {
		if dot(p, p).Sign() != 0 {
			count++
		}
	}
	return count
}

// someShape has strips with two ends, of up to five variables.
func someShape(r *rand.Rand) *system {
	y := newSystem()
	for range 1 + r.Intn(5) {
		sum := linear.Term{}
		for v := range 5 {
			if r.Intn(3) > 0 {
				sum.Parts = append(sum.Parts, linear.Part{Var: v, Coef: big.Of(r.Int63n(41) - 20)})
			}
		}
		low := big.Of(r.Int63n(41) - 20)
		y.add(cond{t: linear.Sub(linear.Norm(sum), linear.Of(low))})
		y.add(cond{t: linear.Sub(linear.Of(big.Add(low, big.Of(60+r.Int63n(99)))), linear.Norm(sum))})
	}
	return y
}

// hold: are the values within all strips?
func (m values) hold(y *system) bool {
	return !slices.ContainsFunc(y.strips, func(s strip) bool {
		n := m.of(s.t)
		return big.Cmp(n, s.low.n) < 0 || big.Cmp(n, s.high.n) > 0
	})
}

// TestNewVariables: as many as are needed, and whatever they are, those of old that
// they tell are within the strips just if they are.
func TestNewVariables(t *testing.T) {
	r := rand.New(rand.NewSource(6))
	held := 0
	for range 300 {
		old := someShape(r)
		s := &search{nextVar: 5}
		y, left := s.squeezed(old)
		if got, want := len(y.variables()), rank(t, old); got != want || rank(t, y) != want {
			t.Fatalf("%d variables, of %d that are needed", got, want)
		}
		y, more := s.reduced(y)
		if got, want := len(y.variables()), rank(t, old); got != want || len(y.strips) != len(old.strips) {
			t.Fatalf("%d variables, of %d that are needed", got, want)
		}
		for range 20 {
			m := values{}
			for _, v := range y.variables() {
				m[v] = big.Of(r.Int63n(5) - 2)
			}
			want := m.hold(y)
			if got := (outcome{ok: true, m: m}).with(append(left, more...)).m.hold(old); got != want {
				t.Fatalf("by %v the strips hold: %v, not %v", m, got, want)
			}
			if want {
				held++
			}
		}
	}
	if held < 100 {
		t.Error("values that are within all strips:", held)
	}
}
