package omega_test

import (
	"math/rand"
	"slices"
	"testing"

	"whetstone/big"
	"whetstone/linear"
	"whetstone/omega"
)

type cons = omega.Cons

// row is a condition in small numbers: the sum of number and coefs times the
// variables 0, 1, .. is 0, if eq; else 0 or more.
type row struct {
	number int64
	coefs  []int64
	eq     bool
}

func (r row) at(x []int64) int64 {
	sum := r.number
	for i, n := range r.coefs {
		sum += n * x[i]
	}
	return sum
}

func (r row) holds(x []int64) bool {
	n := r.at(x)
	return n == 0 || n > 0 && !r.eq
}

// sum is number, and coefs times the variables 0, 1, ..
func sum(number int64, coefs ...int64) linear.Term {
	t := linear.Of(big.Of(number))
	for i, n := range coefs {
		t = linear.Add(t, linear.Scale(linear.Var(i), big.Of(n)))
	}
	return t
}

func consOf(rows []row) []cons {
	var l []cons
	for _, r := range rows {
		l = append(l, cons{T: sum(r.number, r.coefs...), Eq: r.eq})
	}
	return l
}

// inBox goes through all rows of n numbers from -most to most: do all hold by one?
func inBox(rows []row, n int, most int64) bool {
	x := make([]int64, n)
	var from func(i int) bool
	from = func(i int) bool {
		if i == n {
			return !slices.ContainsFunc(rows, func(r row) bool { return !r.holds(x) })
		}
		for x[i] = -most; x[i] <= most; x[i]++ {
			if from(i + 1) {
				return true
			}
		}
		return false
	}
	return from(0)
}

// varsOf are the variables of conditions, rising.
func varsOf(l []cons) []int {
	var vars []int
	for _, c := range l {
		for v := range linear.Vars(c.T) {
			vars = append(vars, v)
		}
	}
	slices.Sort(vars)
	return slices.Compact(vars)
}

// sat asks Sat, and wants its bindings as the chapter has them.
func sat(t *testing.T, l []cons) bool {
	t.Helper()
	bindings, ok := omega.Sat(l)
	if !ok && len(bindings) > 0 {
		t.Fatalf("they can't hold, and there are bindings: %v", bindings)
	}
	if !ok {
		return false
	}
	var bound []int
	for _, b := range bindings {
		if slices.Contains(bound, b.Var) {
			t.Fatalf("%s: the variable %d is bound twice", texts(l), b.Var)
		}
		bound = append(bound, b.Var)
	}
	vars := varsOf(l)
	for _, v := range bound {
		if !slices.Contains(vars, v) {
			t.Fatalf("%s: the variable %d isn't there, and bound", texts(l), v)
		}
	}
	for _, c := range l {
		if n := linear.Eval(c.T, bindings); big.Sign(n) < 0 || c.Eq && big.Sign(n) > 0 {
			t.Fatalf("%s: %s doesn't hold by %v", texts(l), linear.Text(c.T), bindings)
		}
	}
	return true
}

// satIs wants an answer of Sat.
func satIs(t *testing.T, want bool, l []cons) {
	t.Helper()
	if got := sat(t, l); got != want {
		t.Fatalf("Sat of %s = %v", texts(l), got)
	}
}

// texts are conditions as a text.
func texts(l []cons) string {
	out := ""
	for _, c := range l {
		sign := " >= 0; "
		if c.Eq {
			sign = " = 0; "
		}
		out += linear.Text(c.T) + sign
	}
	return out
}

// maker makes conditions of a fixed source.
type maker struct{ *rand.Rand }

func newMaker(seed int64) maker { return maker{rand.New(rand.NewSource(seed))} }

// within is a number from -most to most.
func (m maker) within(most int64) int64 { return m.Int63n(2*most+1) - most }

func (m maker) row(n int, coef, number int64) row {
	r := row{number: m.within(number), coefs: make([]int64, n), eq: m.Intn(6) == 0}
	for i := range r.coefs {
		if m.Intn(4) > 0 {
			r.coefs[i] = m.within(coef)
		}
	}
	return r
}

func (m maker) rows(count, n int, coef, number int64) []row {
	var rows []row
	for range count {
		rows = append(rows, m.row(n, coef, number))
	}
	return rows
}

// boxed are conditions of n variables that are from -most to most by them.
func (m maker) boxed(n int, most int64) []row {
	var rows []row
	for i := range n {
		for _, sign := range []int64{1, -1} {
			r := row{number: most, coefs: make([]int64, n)}
			r.coefs[i] = sign
			rows = append(rows, r)
		}
	}
	coef := 1 + m.Int63n(15)
	rows = append(rows, m.rows(m.Intn(6), n, coef, 3*coef)...)
	m.Shuffle(len(rows), func(i, j int) { rows[i], rows[j] = rows[j], rows[i] })
	return rows
}

// great is a number of so many digits at most.
func (m maker) great(digits int) big.Int {
	n := big.Of(m.within(9))
	for range digits - 1 {
		n = big.Add(big.Mul(n, big.Of(10)), big.Of(m.Int63n(10)))
	}
	return n
}

func one() big.Int { return big.Of(1) }

// less is a condition turned round: the sum is 0 or less.
func less(t linear.Term) cons { return cons{T: linear.Scale(t, big.Of(-1))} }

// fromTo: a sum is from low to high.
func fromTo(t linear.Term, low, high big.Int) []cons {
	return []cons{{T: linear.Sub(t, linear.Of(low))}, {T: linear.Sub(linear.Of(high), t)}}
}
