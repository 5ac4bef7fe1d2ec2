package horn_test

import (
	"math/rand"
	"slices"
	"testing"

	"whetstone/big"
	"whetstone/formula"
	"whetstone/horn"
	"whetstone/linear"
	"whetstone/syntax"
)

// TestFormula: by hand.
func TestFormula(t *testing.T) {
	table := rightTable(t, "qual p(a) = a > 0; fn f() -> int = 1; qual q(a, b) = a <= 2 * b + 1; qual r(a, b, c) = not (b = c) or a < b;")
	x, y, z := linear.Var(3), linear.Var(5), linear.Add(linear.Var(3), num(7))
	for _, c := range []struct {
		x    inst
		args []term
		want string
	}{
		{inst{Qual: 0}, []term{x}, "(-1*x3+1 <= 0)"},
		{inst{Qual: 0}, []term{num(5)}, "(-4 <= 0)"},
		{inst{Qual: 0}, []term{z, x, y}, "(-1*x3-6 <= 0)"},
		{inst{Qual: 1, At: []int{0}}, []term{x, y}, "(1*x3-2*x5-1 <= 0)"},
		{inst{Qual: 1, At: []int{1}}, []term{x, y, z}, "(-1*x3-15 <= 0)"},
		{inst{Qual: 2, At: []int{1, 0}}, []term{x, y, z}, "[ ![ (1*x3-1*x5+7 <= 0) & (-1*x3+1*x5-7 <= 0) ] | (-6 <= 0) ]"},
		{inst{Qual: 2, At: []int{0, 0}}, []term{x, y, z}, "[ ![ (0 <= 0) & (0 <= 0) ] | (1*x3-1*x5+1 <= 0) ]"},
		// No such qualifier.
		{inst{Qual: 3}, []term{x}, "true"},
		{inst{Qual: -1}, []term{x}, "true"},
		// At doesn't fit.
		{inst{Qual: 0, At: []int{0}}, []term{x, y}, "true"},
		{inst{Qual: 1}, []term{x, y}, "true"},
		{inst{Qual: 1, At: []int{0, 0}}, []term{x, y}, "true"},
		{inst{Qual: 1, At: []int{1}}, []term{x, y}, "true"},
		{inst{Qual: 1, At: []int{-1}}, []term{x, y}, "true"},
		{inst{Qual: 2, At: []int{0, 2}}, []term{x, y, z}, "true"},
		{inst{Qual: 2, At: []int{2, 0}}, []term{x, y, z}, "true"},
		{inst{Qual: 1, At: []int{0}}, []term{x}, "true"},
		// There is no value.
		{inst{Qual: 0}, nil, "true"},
		{inst{Qual: 1, At: []int{0}}, nil, "true"},
	} {
		if got := formula.Text(horn.Formula(table, c.x, c.args)); got != c.want {
			t.Errorf("%v of %d: got %s, not %s", c.x, len(c.args), got, c.want)
		}
	}
	if got := horn.Formula(nil, inst{}, []term{x}); got.Kind != formula.True {
		t.Error("a nil table:", got)
	}
}

// at is an expression's value, a number or a truth.
func at(e syntax.Expr, names map[string]int64) (n int64, b bool) {
	var ns []int64
	var bs []bool
	for _, part := range e.Args {
		n, b := at(part, names)
		ns, bs = append(ns, n), append(bs, b)
	}
	switch e.Kind {
	case syntax.Num:
		n, _ = big.Small(e.Num)
		return n, false
	case syntax.Var:
		return names[e.Name], false
	case syntax.Neg:
		return -ns[0], false
	case syntax.Add:
		return ns[0] + ns[1], false
	case syntax.Sub:
		return ns[0] - ns[1], false
	case syntax.Mul:
		return ns[0] * ns[1], false
	case syntax.Eq:
		return 0, ns[0] == ns[1]
	case syntax.Ne:
		return 0, ns[0] != ns[1]
	case syntax.Lt:
		return 0, ns[0] < ns[1]
	case syntax.Le:
		return 0, ns[0] <= ns[1]
	case syntax.Gt:
		return 0, ns[0] > ns[1]
	case syntax.Ge:
		return 0, ns[0] >= ns[1]
	case syntax.Not:
		return 0, !bs[0]
	case syntax.And:
		return 0, bs[0] && bs[1]
	case syntax.Or:
		return 0, bs[0] || bs[1]
	}
	return 0, e.Kind == syntax.True
}

// TestFormulaMeans: a formula is so just where the qualifier is, of the numbers that
// its parameters stand for.
func TestFormulaMeans(t *testing.T) {
	table := rightTable(t, `qual o(a) = a - 3 * a > 1 or a = 2; qual p(b, a) = b < a; qual q(a, b, c) = a + 2 * b != c and not (a > c);
		qual r(x, a, b, c) = -x + a <= b - (c - x) or x = c; fn f(x: int, y: int, z: int) -> int = 1;`)
	m := rand.New(rand.NewSource(2))
	so := map[bool]int{}
	for range 4000 {
		x := inst{Qual: m.Intn(4)}
		q, _ := table.Qual(x.Qual)
		for range len(q.Params) - 1 {
			x.At = append(x.At, m.Intn(3))
		}
		var args []term
		var values []int64
		var bindings []linear.Binding
		for v := range 2 {
			bindings = append(bindings, linear.Binding{Var: v, N: big.Of(int64(m.Intn(9) - 4))})
		}
		for range 4 {
			s := linear.Add(linear.Add(linear.Scale(linear.Var(0), big.Of(int64(m.Intn(3)-1))), linear.Scale(linear.Var(1), big.Of(int64(m.Intn(3)-1)))), num(int64(m.Intn(7)-3)))
			args = append(args, s)
			n, _ := big.Small(linear.Eval(s, bindings))
			values = append(values, n)
		}
		names := map[string]int64{q.Params[0].Name: values[0]}
		for i, a := range x.At {
			names[q.Params[i+1].Name] = values[a+1]
		}
		_, want := at(q.Body, names)
		so[want]++
		row := slices.Clone(x.At)
		if got := formula.Eval(horn.Formula(table, x, args), formula.Val{Nums: bindings}); got != want || !slices.Equal(row, x.At) {
			t.Fatalf("%v of %v: %v", x, values, got)
		}
	}
	if so[true] < 500 || so[false] < 500 {
		t.Error("drawn one-sidedly:", so)
	}
}
