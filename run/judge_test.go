package run_test

import (
	"fmt"
	"slices"
	"testing"

	"whetstone/api"
	"whetstone/base"
	"whetstone/big"
	"whetstone/run"
	"whetstone/syntax"
)

// judge is a second reading of the chapter: it does what functions do by calls of its
// own, and is given up where a run comes to no value.
type judge struct {
	table *base.Table
	fn    string
	left  int
}

// judged is what a call comes to by it.
func judged(table *base.Table, name string, args []val, steps int) (o out) {
	j := &judge{table, name, max(0, min(steps, 131072))}
	defer func() {
		if x := recover(); x != nil {
			o = x.(out)
		}
	}()
	i, _ := table.Find(syntax.Fn, name)
	it, _ := table.Item(i)
	names := map[string]val{}
	for i, p := range it.Params {
		names[p.Name] = args[i]
	}
	v := j.of(it.Body, names)
	return out{Status: run.Done, V: v, Left: j.left}
}

func (j *judge) steps(n int) {
	j.left -= n
	if j.left < 0 {
		panic(out{Status: run.Tire})
	}
}

func (j *judge) fail(at span, code int) {
	panic(out{Status: run.Fail, Fn: j.fn, Span: at, Code: code, Left: j.left})
}

func and(names map[string]val, name string, v val) map[string]val {
	l := map[string]val{}
	for other, is := range names {
		l[other] = is
	}
	l[name] = v
	return l
}

func (j *judge) of(e syntax.Expr, names map[string]val) val {
	j.steps(1)
	switch e.Kind {
	case syntax.Let:
		return j.of(e.Args[1], and(names, e.Name, j.of(e.Args[0], names)))
	case syntax.If:
		if j.of(e.Args[0], names).B {
			return j.of(e.Args[1], names)
		}
		return j.of(e.Args[2], names)
	case syntax.Assert:
		if !j.of(e.Args[0], names).B {
			j.fail(e.Args[0].Span, api.CodeAssert)
		}
		return j.of(e.Args[1], names)
	case syntax.Num:
		return run.Num(e.Num)
	case syntax.True:
		return run.Truth(true)
	case syntax.False:
		return run.Truth(false)
	case syntax.Var:
		return names[e.Name]
	}
	var l []val
	for _, part := range e.Args {
		l = append(l, j.of(part, names))
	}
	if e.Kind != syntax.Call {
		return j.made(e, l)
	}
	i, _ := j.table.Find(syntax.Fn, e.Name)
	it, _ := j.table.Item(i)
	own := map[string]val{}
	for i, p := range it.Params {
		own[p.Name] = l[i]
	}
	fn := j.fn
	j.fn = e.Name
	v := j.of(it.Body, own)
	j.fn = fn
	return v
}

// made is what is made of parts.
func (j *judge) made(e syntax.Expr, l []val) val {
	a, b := l[0], l[len(l)-1]
	switch e.Kind {
	case syntax.Neg:
		return run.Num(big.Sub(big.Of(0), a.N))
	case syntax.Not:
		return run.Truth(!a.B)
	case syntax.Add:
		return run.Num(big.Add(a.N, b.N))
	case syntax.Sub:
		return run.Num(big.Sub(a.N, b.N))
	case syntax.Mul:
		j.steps(limbs(a.N) + limbs(b.N))
		return run.Num(big.Mul(a.N, b.N))
	case syntax.Div, syntax.Mod:
		q, m, e2 := big.DivMod(a.N, b.N)
		if e2 != api.OK {
			j.fail(e.Span, api.CodeZero)
		}
		return run.Num([]big.Int{q, m}[e.Kind-syntax.Div])
	case syntax.And:
		return run.Truth(a.B && b.B)
	case syntax.Or:
		return run.Truth(a.B || b.B)
	case syntax.Len:
		return run.Num(big.Of(int64(len(a.L))))
	case syntax.Fill:
		n, _ := big.Small(e.Num)
		j.steps(int(n))
		return run.Array(slices.Repeat([]big.Int{a.N}, int(n)))
	case syntax.Get, syntax.Set:
		i, small := big.Small(l[1].N)
		if !small || i < 0 || int(i) >= len(a.L) {
			j.fail(e.Span, api.CodeBound)
		}
		if e.Kind == syntax.Get {
			return run.Num(a.L[i])
		}
		j.steps(len(a.L))
		changed := append([]big.Int{}, a.L...)
		changed[i] = b.N
		return run.Array(changed)
	}
	return run.Truth(compares(e.Kind, a, b))
}

func compares(kind int, a, b val) bool {
	order := big.Cmp(a.N, b.N)
	switch kind {
	case syntax.Eq:
		return order == 0 && a.B == b.B
	case syntax.Ne:
		return order != 0 || a.B != b.B
	case syntax.Lt:
		return order < 0
	case syntax.Le:
		return order <= 0
	case syntax.Gt:
		return order > 0
	}
	return order >= 0
}

// limbs is how many a number has, by its digits.
func limbs(n big.Int) int {
	count := 0
	for rest := big.Abs(n); big.Sign(rest) > 0; count++ {
		rest, _, _ = big.DivMod(rest, big.Of(1<<32))
	}
	return count
}

// judges: a call comes to what the second reading says, in any number of steps; and
// with more of them what was Done or Fail is the same, and as many more are left.
func judges(t *testing.T, s string, table *base.Table, name string, args []val, most int) out {
	t.Helper()
	whole := run.Call(table, name, args, most)
	if got, want := told(whole), told(judged(table, name, args, most)); got != want {
		t.Fatalf("%s\n  %s of %v in %d: %s, not %s", s, name, args, most, got, want)
	}
	if whole.Status == run.Tire {
		return whole
	}
	used := most - whole.Left
	for _, steps := range []int{-3, 0, 1, used / 2, used - 2, used - 1, used, used + 1, used + 1000, most + 1, run.MostSteps} {
		got := run.Call(table, name, args, steps)
		want := out{Status: run.Tire}
		if steps >= used {
			want = whole
			want.Left = min(steps, run.MostSteps) - used
		}
		if told(got) != told(want) {
			t.Fatalf("%s\n  %s of %v in %d: %s, not %s", s, name, args, steps, told(got), told(want))
		}
	}
	return whole
}

// TestJudged: drawn functions of drawn values.
func TestJudged(t *testing.T) {
	ends := map[string]int{}
	for seed := range int64(1600) {
		m := newMaker(seed)
		s := m.text()
		table := rightTable(t, s)
		for _, h := range m.heads {
			for range 3 {
				o := judges(t, s, table, h.name, m.arguments(h.params), 1+m.Intn(3000))
				ends[fmt.Sprint(o.Status, " ", o.Code)]++
				if o.Status == run.Done {
					ends[fmt.Sprint("base ", o.V.Base)]++
				}
				if o.Fn != "" && o.Fn != h.name {
					ends["another one fails"]++
				}
			}
		}
	}
	for end, least := range map[string]int{
		"1 0": 3000, "3 0": 300, "2 10": 150, "2 11": 150, "2 12": 150,
		"base 1": 600, "base 2": 600, "base 3": 300, "another one fails": 60,
	} {
		if ends[end] < least {
			t.Error("drawn one-sidedly:", end, ends[end])
		}
	}
}
