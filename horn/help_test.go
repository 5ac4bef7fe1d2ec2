package horn_test

import (
	"fmt"
	"maps"
	"slices"
	"strings"
	"testing"

	"whetstone/api"
	"whetstone/base"
	"whetstone/big"
	"whetstone/gen"
	"whetstone/horn"
	"whetstone/lex"
	"whetstone/linear"
	"whetstone/syntax"
)

type (
	inst = horn.Inst
	kap  = gen.Kap
	sol  = horn.Sol
	term = linear.Term
)

// rightTable is the table of a text all of whose items are right.
func rightTable(t testing.TB, s string) *base.Table {
	t.Helper()
	var items []syntax.Item
	for span := range lex.Items([]byte(s)) {
		it, at, e := syntax.Parse([]byte(s[span.From:span.To]))
		if e != api.OK {
			t.Fatalf("%q: item %d: %v, %d", s, len(items), at, e)
		}
		items = append(items, it)
	}
	table := base.New(items)
	for i := range table.Count() {
		if f, bad := table.Check(i); bad {
			t.Fatalf("%q: item %d isn't right: %v", s, i, f)
		}
	}
	return table
}

// partsOf is all functions' conditions; placesOf all open places.
func partsOf(table *base.Table) []horn.Part {
	var l []horn.Part
	for i := range table.Count() {
		if it, _ := table.Item(i); it.Kind == syntax.Fn {
			l = append(l, horn.Part{Fn: it.Name, Cons: gen.Function(table, i)})
		}
	}
	return l
}

func placesOf(table *base.Table) []kap {
	var l []kap
	for i := range table.Count() {
		it, _ := table.Item(i)
		l = append(l, gen.Opens(it)...)
	}
	return l
}

// solved is the solution of all open places of a text, by an engine that was asked
// nothing.
func solved(table *base.Table) sol {
	s := sol{}
	horn.New().Solve(table, partsOf(table), placesOf(table), s)
	return s
}

// instText is the name of the qualifier, and At.
func instText(table *base.Table, x inst) string {
	q, _ := table.Qual(x.Qual)
	var at []string
	for _, n := range x.At {
		at = append(at, fmt.Sprint(n))
	}
	return q.Name + "(" + strings.Join(at, " ") + ")"
}

func instsText(table *base.Table, l []inst) string {
	var parts []string
	for _, x := range l {
		parts = append(parts, instText(table, x))
	}
	return strings.Join(parts, " ")
}

// solText is a solution in one line, place by place, those without anything left out.
func solText(table *base.Table, s sol) string {
	var l []string
	for k, x := range s {
		if len(x) > 0 {
			l = append(l, fmt.Sprint(k.Fn, ".", k.Pos, ": ", instsText(table, x)))
		}
	}
	slices.Sort(l)
	return strings.Join(l, "; ")
}

// copied is a solution in memory of its own.
func copied(s sol) sol {
	s = maps.Clone(s)
	for k, l := range s {
		l = slices.Clone(l)
		for i, x := range l {
			l[i].At = slices.Clone(x.At)
		}
		s[k] = l
	}
	return s
}

func num(n int64) term { return linear.Of(big.Of(n)) }

// answers: the solution of all open places of a text is this.
func answers(t *testing.T, s, want string) {
	t.Helper()
	table := rightTable(t, s)
	if got := solText(table, solved(table)); got != want {
		t.Errorf("%s\n  got %s\n  not %s", s, got, want)
	}
}
