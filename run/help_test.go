package run_test

import (
	"fmt"
	"strings"
	"testing"

	"whetstone/api"
	"whetstone/base"
	"whetstone/big"
	"whetstone/lex"
	"whetstone/run"
	"whetstone/syntax"
)

type (
	val  = run.Val
	out  = run.Out
	span = api.Span
)

// readTable is the table of a text's items, whatever they mean, with their bytes.
func readTable(t testing.TB, s string) (*base.Table, []string) {
	t.Helper()
	var items []syntax.Item
	var texts []string
	for at := range lex.Items([]byte(s)) {
		it, where, e := syntax.Parse([]byte(s[at.From:at.To]))
		if e != api.OK {
			t.Fatalf("%q: %v, %d", s[at.From:at.To], where, e)
		}
		items, texts = append(items, it), append(texts, s[at.From:at.To])
	}
	return base.New(items), texts
}

// rightTable is that of a text all of whose items are right.
func rightTable(t testing.TB, s string) *base.Table {
	t.Helper()
	table, _ := readTable(t, s)
	for i := range table.Count() {
		if f, bad := table.Check(i); bad {
			t.Fatalf("%q: item %d isn't right: %v", s, i, f)
		}
	}
	return table
}

// number is that of some digits.
func number(s string) big.Int {
	n, e := big.Parse(s)
	if e != api.OK {
		panic(s)
	}
	return n
}

// value is what a text says: 7, true, or [1 2 3].
func value(s string) val {
	switch {
	case s == "true" || s == "false":
		return run.Truth(s == "true")
	case strings.HasPrefix(s, "["):
		var l []big.Int
		for _, n := range strings.Fields(strings.Trim(s, "[]")) {
			l = append(l, number(n))
		}
		return run.Array(l)
	}
	return run.Num(number(s))
}

func values(l ...string) []val {
	var out []val
	for _, s := range l {
		out = append(out, value(s))
	}
	return out
}

// shown is a value's text, and tells of what doesn't belong there.
func shown(v val) string {
	switch {
	case v.Base == api.Int && !v.B && len(v.L) == 0:
		return digits(v.N)
	case v.Base == api.Bool && len(v.N.Mag) == 0 && !v.N.Neg && len(v.L) == 0:
		return fmt.Sprint(v.B)
	case v.Base == api.Arr && len(v.N.Mag) == 0 && !v.N.Neg && !v.B:
		var l []string
		for _, n := range v.L {
			l = append(l, digits(n))
		}
		return "[" + strings.Join(l, " ") + "]"
	case v.Base == api.NoType && len(v.N.Mag) == 0 && !v.N.Neg && !v.B && len(v.L) == 0:
		return "nothing"
	}
	return fmt.Sprint("odd ", v)
}

// digits tells of a number that isn't in its one form, too.
func digits(n big.Int) string {
	if l := n.Mag; len(l) > 0 && l[len(l)-1] == 0 || len(l) == 0 && n.Neg {
		return fmt.Sprint("odd ", n)
	}
	return big.Text(n)
}

// told is all that an Out says, of a text's items.
func told(o out) string {
	s := fmt.Sprint([]string{"nothing", "done", "fail", "tire", "odd"}[o.Status], " ", o.Left)
	if o.V.Base != api.NoType || o.Status == run.Done {
		s += " " + shown(o.V)
	}
	if o.Fn != "" || o.Span != (span{}) || o.Code != 0 || o.Status == run.Fail {
		s += fmt.Sprint(" ", o.Fn, " ", o.Span, " ", o.Code)
	}
	return s
}

// gives: a function of a right text comes to this value, in just so many steps; with
// one less there are too few.
func gives(t *testing.T, s, want string, steps int, args ...string) {
	t.Helper()
	table := rightTable(t, s)
	for _, more := range []int{0, 1, 7, run.MostSteps - steps} {
		o := run.Call(table, "f", values(args...), steps+more)
		if got := told(o); got != fmt.Sprint("done ", more, " ", want) {
			t.Errorf("%s\n  of %v in %d: %s, not %s with %d left", s, args, steps+more, got, want, more)
		}
	}
	tires(t, table, s, steps, args...)
}

// tires: with fewer steps there are too few.
func tires(t *testing.T, table *base.Table, s string, steps int, args ...string) {
	t.Helper()
	for less := 1; less <= steps; less++ {
		if got := told(run.Call(table, "f", values(args...), steps-less)); got != "tire 0" {
			t.Errorf("%s\n  of %v in %d: %s", s, args, steps-less, got)
			return
		}
	}
}

// fails: a function of a text comes to a failure, in just so many steps: in an item of
// which these are the bytes, at the last place of a text.
func fails(t *testing.T, s, fn, at string, code, steps int, args ...string) {
	t.Helper()
	table, texts := readTable(t, s)
	i, _ := table.Find(syntax.Fn, fn)
	from := strings.LastIndex(texts[i], at)
	for _, more := range []int{0, 1, 7, run.MostSteps - steps} {
		o := run.Call(table, "f", values(args...), steps+more)
		if want := fmt.Sprint("fail ", more, " ", fn, " ", span{From: from, To: from + len(at)}, " ", code); told(o) != want {
			t.Errorf("%s\n  of %v in %d: %s, not %s", s, args, steps+more, told(o), want)
		}
	}
	tires(t, table, s, steps, args...)
}
