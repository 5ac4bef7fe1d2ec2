package check_test

import (
	"fmt"
	"math/rand"
	"slices"
	"sort"
	"strings"
	"testing"

	"whetstone/api"
	"whetstone/base"
	"whetstone/check"
	"whetstone/formula"
	"whetstone/gen"
	"whetstone/horn"
	"whetstone/lex"
	"whetstone/smt"
	"whetstone/syntax"
)

// judged is a second reading of the chapter's steps.
func judged(s string) check.Report {
	var items []syntax.Item
	var diags []diag
	var begins []int
	for at := range lex.Items([]byte(s)) {
		if len(items) == 200 {
			return check.Report{Diags: []diag{{Span: at, Code: 1, Text: message(api.ErrBig)}}}
		}
		it, where, e := syntax.Parse([]byte(s[at.From:at.To]))
		if e != 0 {
			diags = append(diags, diag{Span: moved(where, at.From), Code: 1, Text: message(e)})
		}
		items, begins = append(items, it), append(begins, at.From)
	}
	if len(diags) > 0 {
		return check.Report{Diags: ordered(diags)}
	}
	table := base.New(items)
	for i := range items {
		if f, bad := table.Check(i); bad {
			d := diag{Span: moved(f.Span, begins[i]), Code: 3, Text: message(f.E)}
			if f.E == api.ErrName || f.E == api.ErrTwice {
				d.Code = 2
			}
			diags = append(diags, d)
		}
	}
	if len(diags) > 0 {
		return check.Report{Diags: ordered(diags)}
	}
	found := strongest(table)
	var sigs []check.Sig
	for i, it := range items {
		diags = append(diags, failing(table, i, begins[i], found)...)
		if it.Kind == syntax.Fn {
			sigs = append(sigs, check.Sig{At: moved(it.At, begins[i]), Text: headText(table, it, found)})
		}
	}
	return check.Report{Diags: ordered(diags), Sigs: sigs}
}

func moved(s span, by int) span {
	s.From += by
	s.To += by
	return s
}

func ordered(l []diag) []diag {
	var out []diag
	for _, d := range l {
		if !slices.Contains(out, d) {
			out = append(out, d)
		}
	}
	sort.Slice(out, func(i, j int) bool { return isAhead(out[i], out[j]) })
	return out
}

// strongest is found by sweeps: what doesn't hold by one condition is struck out,
// until nothing is.
func strongest(table *base.Table) horn.Sol {
	sol := horn.Sol{}
	for i := range table.Count() {
		it, _ := table.Item(i)
		for _, k := range gen.Opens(it) {
			sol[k] = horn.Insts(table, k)
		}
	}
	for again := true; again; {
		again = false
		for i := range table.Count() {
			for _, c := range gen.Function(table, i) {
				k := c.Head.Use.K
				if !c.Head.IsK {
					continue
				}
				before := len(sol[k])
				sol[k] = slices.DeleteFunc(sol[k], func(x horn.Inst) bool {
					return !follows(table, c, horn.Formula(table, x, c.Head.Use.Args), sol)
				})
				again = again || len(sol[k]) < before
			}
		}
	}
	return sol
}

// follows: is a formula so, wherever what a condition knows is?
func follows(table *base.Table, c gen.Cons, f formula.F, sol horn.Sol) bool {
	var known []formula.F
	for _, h := range c.Hyps {
		if !h.IsK {
			known = append(known, formula.If(h.If, h.F))
		}
		for _, x := range sol[h.Use.K] {
			if h.IsK {
				known = append(known, formula.If(h.If, horn.Formula(table, x, h.Use.Args)))
			}
		}
	}
	so, _ := smt.New().Valid(known, f, c.Apps)
	return so
}

func failing(table *base.Table, i, at int, sol horn.Sol) []diag {
	texts := map[int]string{
		10: "this may not hold", 11: "this may be out of bounds", 12: "this may divide by 0",
		13: "this argument may not be as the parameter asks", 14: "the result may not be as the function says",
	}
	var l []diag
	for _, c := range gen.Function(table, i) {
		if !c.Head.IsK && !follows(table, c, c.Head.F, sol) {
			l = append(l, diag{Span: moved(c.Span, at), Code: c.Code, Text: texts[c.Code]})
		}
	}
	return l
}

// headText is made of texts: layer 9 takes away the brackets that change nothing.
func headText(table *base.Table, it syntax.Item, sol horn.Sol) string {
	var names, params []string
	for pos, p := range it.Params {
		params = append(params, p.Name+":"+typeText(table, it, pos, p.Type, names, sol))
		if p.Type.Base == api.Int {
			names = append(names, p.Name)
		}
	}
	result := typeText(table, it, gen.Result, it.Result, names, sol)
	printed, _, _ := syntax.Parse([]byte("fn " + it.Name + "(" + strings.Join(params, ",") + ") -> " + result + "=0;"))
	return strings.TrimSuffix(strings.TrimPrefix(syntax.Print(printed), "fn "), " = 0;")
}

func typeText(table *base.Table, it syntax.Item, pos int, t syntax.Type, names []string, sol horn.Sol) string {
	if t.Base != api.Int || it.Pub || len(t.Pred) > 0 {
		return syntax.ShowType(t)
	}
	var preds []string
	for _, x := range sol[gen.Kap{Fn: it.Name, Pos: pos}] {
		q, _ := table.Qual(x.Qual)
		by := map[string]string{q.Params[0].Name: "v"}
		for i, at := range x.At {
			by[q.Params[i+1].Name] = names[at]
		}
		tokens, _, _ := lex.Tokens([]byte(syntax.Show(q.Body)))
		var l []string
		for _, token := range tokens {
			text := token.Text
			if token.Kind == lex.Name {
				text = by[text]
			}
			l = append(l, text)
		}
		preds = append(preds, "("+strings.Join(l, " ")+")")
	}
	if len(preds) == 0 {
		return "int"
	}
	return "int{" + strings.Join(preds, " and ") + "}"
}

// judges: Check answers what the second reading does.
func judges(t *testing.T, s string) check.Report {
	t.Helper()
	got, want := check.Check([]byte(s)), judged(s)
	if !slices.Equal(got.Diags, want.Diags) || !slices.Equal(got.Sigs, want.Sigs) {
		t.Fatalf("%s\n  got %v\n  not %v", s, got, want)
	}
	return got
}

// TestJudged: texts all of whose items are right.
func TestJudged(t *testing.T) {
	codes := map[int]int{}
	found := 0
	for seed := range int64(1200) {
		m := newMaker(20000 + seed)
		r := judges(t, m.text())
		for _, d := range r.Diags {
			codes[d.Code]++
		}
		for _, g := range r.Sigs {
			if strings.Contains(g.Text, " and ") {
				found++
			}
		}
	}
	for code := api.CodeAssert; code <= api.CodeResult; code++ {
		if codes[code] < 20 {
			t.Error("few of a code:", code, codes[code])
		}
	}
	if found < 200 {
		t.Error("little is found:", found)
	}
}

// isPart: is a token one that may be a part?
func isPart(token string) bool {
	return lex.IsName(token) || token == "true" || token == "v" || strings.Trim(token, "0123456789") == ""
}

// spoilt is a text with some of its tokens changed.
func spoilt(m *rand.Rand, s string) string {
	tokens, _, _ := lex.Tokens([]byte(s))
	var l []string
	for _, token := range tokens {
		l = append(l, token.Text)
	}
	others := strings.Fields("fn qual pub let in if then else assert true false int bool arr v get set len fill not and ( ) { } , ; = -> + * / < x1 p0 p1 f0 f1 nobody 007 5 # // 99999999999999999999999999999999999999999")
	for range 1 + m.Intn(3) {
		i := m.Intn(len(l))
		switch m.Intn(8) {
		case 0:
			l = slices.Delete(l, i, i+1)
		case 1:
			l = slices.Insert(l, i, others[m.Intn(len(others))])
		case 2:
			l[i] = others[m.Intn(len(others))]
		default:
			// A name or a number for another one of the text: that can be read.
			for range 50 {
				if j := m.Intn(len(l)); isPart(l[i]) && isPart(l[j]) {
					l[i] = l[j]
					break
				}
				i = m.Intn(len(l))
			}
		}
	}
	for i, token := range l {
		if token == ";" {
			l[i] = ";\n"
		}
	}
	return strings.Join(l, " ")
}

// TestSpoiltJudged: texts whose items may be wrong.
func TestSpoiltJudged(t *testing.T) {
	codes := map[int]int{}
	texts := map[string]int{}
	many := 0
	for seed := range int64(6000) {
		m := newMaker(30000 + seed)
		r := judges(t, spoilt(m.Rand, m.text()))
		for _, d := range r.Diags {
			codes[d.Code]++
			texts[d.Text]++
		}
		if len(r.Diags) > 1 && len(r.Sigs) == 0 {
			many++
		}
	}
	for code := api.CodeSyntax; code <= api.CodeType; code++ {
		if codes[code] < 200 {
			t.Error("few of a code:", code, codes[code])
		}
	}
	for _, e := range []api.Errno{api.ErrForm, api.ErrEnds, api.ErrToken, api.ErrExpect, api.ErrBig, api.ErrName, api.ErrTwice, api.ErrType, api.ErrArgs, api.ErrPred} {
		if texts[message(e)] == 0 {
			t.Error("none of a message:", message(e))
		}
	}
	if many < 100 {
		t.Error("few texts with several wrong items:", many)
	}
}

// TestManyJudged: about as many items as there may be.
func TestManyJudged(t *testing.T) {
	for _, count := range []int{199, 200, 201, 202} {
		var s strings.Builder
		s.WriteString("qual p(a) = a >= 0; qual l(a, b) = a <= b;")
		for i := range count - 2 {
			fmt.Fprintf(&s, "fn f%d(x: int, y: int) -> int = if x <= y then x else f%d(x - 1, y);\n", i, (i*7+3)%(count-2))
		}
		judges(t, s.String())
		judges(t, s.String()+" // no item")
		judges(t, s.String()+"#")
	}
}
