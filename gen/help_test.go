package gen_test

import (
	"fmt"
	"reflect"
	"slices"
	"strings"
	"testing"

	"whetstone/api"
	"whetstone/base"
	"whetstone/big"
	"whetstone/formula"
	"whetstone/gen"
	"whetstone/lex"
	"whetstone/linear"
	"whetstone/smt"
	"whetstone/syntax"
)

type (
	expr = syntax.Expr
	item = syntax.Item
	term = linear.Term
	form = formula.F
)

func parsed(t testing.TB, s string) item {
	t.Helper()
	it, at, e := syntax.Parse([]byte(s))
	if e != api.OK {
		t.Fatalf("Parse(%q): %v, %d", s, at, e)
	}
	return it
}

// itemsOf is a text's items, each without what stands ahead of it.
func itemsOf(t testing.TB, s string) []item {
	t.Helper()
	var l []item
	for span := range lex.Items([]byte(s)) {
		l = append(l, parsed(t, strings.TrimSpace(s[span.From:span.To])))
	}
	return l
}

// rightTable is the table of a text all of whose items are right.
func rightTable(t testing.TB, s string) *base.Table {
	t.Helper()
	table := base.New(itemsOf(t, s))
	for i := range table.Count() {
		if f, bad := table.Check(i); bad {
			t.Fatalf("%q: item %d isn't right: %v", s, i, f)
		}
	}
	return table
}

// exprOf is an expression of a text, alone.
func exprOf(t testing.TB, s string) expr {
	t.Helper()
	return parsed(t, "fn f() -> int = "+s+";").Body
}

func num(n int64) term { return linear.Of(big.Of(n)) }

// formText is a formula as a text that tells all of it, but for the lists that a
// formula of its kind has none of.
func formText(f form) string {
	var parts []string
	for _, a := range f.Args {
		parts = append(parts, formText(a))
	}
	inner := "(" + strings.Join(parts, ", ") + ")"
	switch f.Kind {
	case formula.False:
		return "no"
	case formula.True:
		return "yes"
	case formula.Bool:
		return fmt.Sprint("b", f.Var)
	case formula.Le:
		return "<" + linear.Text(f.T) + ">"
	case formula.Not:
		return "not" + inner
	case formula.And:
		return "all" + inner
	case formula.Or:
		return "any" + inner
	}
	return fmt.Sprint("kind", f.Kind, inner)
}

func useText(u gen.Use) string {
	var parts []string
	for _, a := range u.Args {
		parts = append(parts, linear.Text(a))
	}
	return fmt.Sprint(u.K.Fn, ".", u.K.Pos, "(", strings.Join(parts, ", "), ")")
}

// hypText is what is so, and where, if not everywhere.
func hypText(h gen.Hyp) string {
	s := formText(h.F)
	if h.IsK {
		s = useText(h.Use)
	}
	if h.If.Kind == formula.True {
		return s
	}
	return formText(h.If) + " ? " + s
}

func appText(a smt.App) string {
	return fmt.Sprint("x", a.Var, " = ", smt.Key(a))
}

// consText is a condition in one line: its code, the text of its span, its head, what
// is known, and the apps.
func consText(c gen.Cons, text string) string {
	l := []string{fmt.Sprint(c.Code, " `", text[c.Span.From:c.Span.To], "` ", hypText(c.Head))}
	for _, h := range c.Hyps {
		l = append(l, hypText(h))
	}
	for _, a := range c.Apps {
		l = append(l, appText(a))
	}
	return strings.Join(l, " ; ")
}

// tidy is a condition without a difference between no list and an empty one, in
// memory of its own.
func tidy(c gen.Cons) gen.Cons {
	c.Hyps = append([]gen.Hyp{}, c.Hyps...)
	for i, h := range c.Hyps {
		c.Hyps[i] = tidyHyp(h)
	}
	c.Head = tidyHyp(c.Head)
	c.Apps = append([]smt.App{}, c.Apps...)
	for i, a := range c.Apps {
		c.Apps[i].Args = tidyTerms(a.Args)
	}
	return c
}

func tidyHyp(h gen.Hyp) gen.Hyp {
	h.If, h.F = tidyForm(h.If), tidyForm(h.F)
	h.Use.Args = tidyTerms(h.Use.Args)
	return h
}

func tidyForm(f form) form {
	f.T = tidyTerm(f.T)
	f.Args = append([]form{}, f.Args...)
	for i, a := range f.Args {
		f.Args[i] = tidyForm(a)
	}
	return f
}

func tidyTerms(l []term) []term {
	l = append([]term{}, l...)
	for i, t := range l {
		l[i] = tidyTerm(t)
	}
	return l
}

func tidyTerm(t term) term {
	t.Const.Mag = append([]uint32{}, t.Const.Mag...)
	t.Parts = append([]linear.Part{}, t.Parts...)
	for i, p := range t.Parts {
		t.Parts[i].Coef.Mag = append([]uint32{}, p.Coef.Mag...)
	}
	return t
}

// difference is the first one between two lists of conditions, in all their fields;
// none: "".
func difference(got, want []gen.Cons) string {
	if len(got) != len(want) {
		return fmt.Sprintf("%d conditions, not %d", len(got), len(want))
	}
	for i, c := range got {
		if !reflect.DeepEqual(tidy(c), tidy(want[i])) {
			return fmt.Sprintf("condition %d is\n  %v\nnot\n  %v", i, tidy(c), tidy(want[i]))
		}
	}
	return ""
}

// conds is the lines of the conditions of the last item of a text.
func conds(t testing.TB, s string) []string {
	t.Helper()
	table := rightTable(t, s)
	last := table.Count() - 1
	it, _ := table.Item(last)
	texts := strings.SplitAfter(s, ";")
	text := strings.TrimSpace(texts[len(texts)-2])
	var l []string
	for _, c := range gen.Function(table, last) {
		if c.Fn != it.Name {
			t.Errorf("a condition of %q is said to be one of %q", it.Name, c.Fn)
		}
		l = append(l, consText(c, text))
	}
	return l
}

// answers: the conditions of the last item of a text are these lines.
func answers(t *testing.T, s string, want ...string) {
	t.Helper()
	if got := conds(t, s); !slices.Equal(got, want) {
		t.Errorf("%s\n  got\n    %s\n  not\n    %s", s, strings.Join(got, "\n    "), strings.Join(want, "\n    "))
	}
}
