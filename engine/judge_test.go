package engine_test

import (
	"reflect"
	"slices"
	"strings"
	"testing"

	"whetstone/api"
	"whetstone/base"
	"whetstone/check"
	"whetstone/engine"
	"whetstone/gen"
	"whetstone/horn"
	"whetstone/lex"
	"whetstone/syntax"
)

// judge is a second reading of what an Update may do: it knows the last text's items,
// and the last right text.
type judge struct {
	last map[string]int
	old  meaning
}

// meaning is a right text.
type meaning struct {
	names []string // of the functions, in their order
	quals string
	texts map[string]string
	heads map[string]string
	calls map[string][]string
	opens map[string][]gen.Kap
	conds map[string][]gen.Cons
}

// verdict is what an Update may do.
type verdict struct {
	parsed int
	made   []string
	may    map[horn.Query]int // the questions that may be asked
	asks   int                // as many questions there are
	cone   map[gen.Kap]int
	opens  int // open places
}

func (j *judge) next(s string) verdict {
	var v verdict
	var items []syntax.Item
	var texts []string
	right := true
	now := map[string]int{}
	for at := range lex.Items([]byte(s)) {
		text := s[at.From:at.To]
		if now[text]++; now[text] == 1 && j.last[text] == 0 {
			v.parsed++
		}
		it, _, e := syntax.Parse([]byte(text))
		right = right && e == api.OK
		items, texts = append(items, it), append(texts, text)
	}
	j.last = now
	table := base.New(items)
	for i := range items {
		_, bad := table.Check(i)
		right = right && !bad
	}
	if !right || len(items) > 200 {
		return v
	}
	m := meant(table, texts)
	v.judge(j.old, m)
	j.old = m
	return v
}

func meant(table *base.Table, texts []string) meaning {
	m := meaning{
		texts: map[string]string{}, heads: map[string]string{}, calls: map[string][]string{},
		opens: map[string][]gen.Kap{}, conds: map[string][]gen.Cons{},
	}
	for i, text := range texts {
		it, _ := table.Item(i)
		if it.Kind == syntax.Qual {
			m.quals += syntax.Print(it) + "\n"
			continue
		}
		m.names = append(m.names, it.Name)
		m.texts[it.Name] = text
		m.heads[it.Name] = strings.TrimSuffix(syntax.Print(it), " = "+syntax.Show(it.Body)+";")
		m.calls[it.Name] = base.Calls(it)
		m.opens[it.Name] = gen.Opens(it)
		m.conds[it.Name] = gen.Function(table, i)
	}
	return m
}

// judge tells what may be done, by two right texts.
func (v *verdict) judge(old, now meaning) {
	for _, name := range now.names {
		others := slices.ContainsFunc(now.calls[name], func(f string) bool { return old.heads[f] != now.heads[f] })
		if others || old.texts[name] != now.texts[name] {
			v.made = append(v.made, name)
		}
		v.opens += len(now.opens[name])
	}
	v.cone = map[gen.Kap]int{}
	for _, name := range now.names {
		if old.quals != now.quals || slices.Contains(v.made, name) {
			for _, k := range now.opens[name] {
				v.cone[k]++
			}
		}
	}
	heads := func(l []gen.Cons) {
		for _, c := range l {
			if c.Head.IsK {
				v.cone[c.Head.Use.K]++
			}
		}
	}
	for _, name := range v.made {
		heads(now.conds[name])
		heads(old.conds[name])
	}
	for _, name := range old.names {
		if now.texts[name] == "" {
			heads(old.conds[name])
		}
	}
	v.grow(now)
	v.may = map[horn.Query]int{}
	for name, l := range now.conds {
		for n, c := range l {
			v.asks++
			toldOf := !c.Head.IsK && (slices.Contains(v.made, name) || v.knows(c))
			if c.Head.IsK && v.cone[c.Head.Use.K] > 0 || toldOf {
				v.may[horn.Query{Fn: name, Cons: n}]++
			}
		}
	}
}

// knows: has a condition a Use of a place of the cone among its Hyps?
func (v *verdict) knows(c gen.Cons) bool {
	for _, h := range c.Hyps {
		if h.IsK && v.cone[h.Use.K] > 0 {
			return true
		}
	}
	return false
}

// grow makes the cone as great as it must be, by sweeps.
func (v *verdict) grow(now meaning) {
	for again := true; again; {
		again = false
		for _, l := range now.conds {
			for _, c := range l {
				if k := c.Head.Use.K; c.Head.IsK && v.cone[k] == 0 && v.knows(c) {
					v.cone[k]++
					again = true
				}
			}
		}
	}
}

// judges: an Update answers what Check does, and does no more than it may.
func judges(t *testing.T, e *engine.Engine, j *judge, s string) (verdict, engine.Stats) {
	t.Helper()
	got, want := e.Update([]byte(s)), check.Check([]byte(s))
	if !reflect.DeepEqual(got, want) {
		t.Fatalf("%q\n  got %v\n  not %v", s, got, want)
	}
	if again := e.Report(); !reflect.DeepEqual(again, want) {
		t.Fatalf("%q\n  then %v\n  not %v", s, again, want)
	}
	v, stats := j.next(s), e.Stats()
	if stats.Parsed != v.parsed {
		t.Fatalf("%q\n  %d items are read, not %d", s, stats.Parsed, v.parsed)
	}
	if !slices.Equal(stats.Made, v.made) {
		t.Fatalf("%q\n  %v are made, not %v", s, stats.Made, v.made)
	}
	for _, q := range stats.Queries {
		if v.may[q] == 0 {
			t.Fatalf("%q\n  it asks of %v, with %v made, and the cone %v", s, q, v.made, v.cone)
		}
	}
	bounded(t, e)
	return v, stats
}

// bounded: is no more kept than may be?
func bounded(t *testing.T, e *engine.Engine) {
	t.Helper()
	vars, clauses, learned := e.Sizes()
	if max(vars, clauses) > 4096 || learned > 20000 || min(vars, clauses, learned) < 0 {
		t.Fatal("kept are", vars, clauses, learned)
	}
}

// TestHistories: drawn histories of texts.
func TestHistories(t *testing.T) {
	count := map[string]int{}
	for seed := range int64(240) {
		p := newProject(seed)
		e, j := engine.New(), &judge{}
		for range 25 {
			s := p.next()
			v, stats := judges(t, e, j, s)
			r := e.Report()
			switch {
			case len(r.Diags) > 0 && r.Diags[0].Code < api.CodeAssert:
				count["wrong"]++
			case len(r.Diags) > 0:
				count["may go wrong"]++
			default:
				count["passed"]++
			}
			if len(v.cone) > 0 && len(v.cone) < v.opens {
				count["part of the places"]++
			}
			if len(v.may) > 0 && len(v.may) < v.asks {
				count["part of the conditions"]++
			}
			if len(stats.Queries) > 0 {
				count["asks"]++
			}
			if len(v.made) == 0 && len(v.cone) > 0 {
				count["nothing made, but a cone"]++
			}
			if len(v.made) > 0 && len(v.may) == 0 {
				count["made, but nothing to ask"]++
			}
			for _, g := range r.Sigs {
				count["found"] += strings.Count(g.Text, " and ")
			}
		}
	}
	for what, least := range map[string]int{
		"wrong": 500, "may go wrong": 1500, "passed": 1500, "part of the places": 600, "part of the conditions": 1000,
		"asks": 2000, "nothing made, but a cone": 300, "made, but nothing to ask": 300, "found": 5000,
	} {
		if count[what] < least {
			t.Error("drawn one-sidedly:", what, count[what])
		}
	}
}
