package engine_test

import (
	"testing"

	"whetstone/api"
	"whetstone/base"
	"whetstone/big"
	"whetstone/check"
	"whetstone/engine"
	"whetstone/lex"
	"whetstone/run"
	"whetstone/syntax"
)

// caller calls the functions of a right text as their heads say, found predicates too.
type caller struct {
	table *base.Table
	heads []syntax.Item
}

func newCaller(t *testing.T, s string, r check.Report) caller {
	t.Helper()
	var items []syntax.Item
	for at := range lex.Items([]byte(s)) {
		it, _, _ := syntax.Parse([]byte(s[at.From:at.To]))
		items = append(items, it)
	}
	c := caller{table: base.New(items)}
	for _, g := range r.Sigs {
		it, at, e := syntax.Parse([]byte("fn " + g.Text + " = 0;"))
		if e != api.OK {
			t.Fatalf("%q: %v, %d", g.Text, at, e)
		}
		c.heads = append(c.heads, it)
	}
	return c
}

// draw is arguments that are as a head says, and their names; false: none were found.
func draw(m *maker, head syntax.Item) (names []string, args []run.Val, ok bool) {
	for range 30 {
		names, args, ok = nil, nil, true
		for _, p := range head.Params {
			v := run.Num(big.Of(int64(m.Intn(13) - 6)))
			switch p.Type.Base {
			case api.Bool:
				v = run.Truth(m.Intn(2) == 0)
			case api.Arr:
				var l []big.Int
				for range p.Type.Len {
					l = append(l, big.Of(int64(m.Intn(13)-6)))
				}
				v = run.Array(l)
			}
			ok = ok && run.Holds(p.Type, v, names, args)
			names, args = append(names, p.Name), append(args, v)
		}
		if ok {
			return names, args, true
		}
	}
	return nil, nil, false
}

// TestNothingGoesWrong: of a text without Diags, whatever texts came ahead, no call
// that is as a head says fails, and what it answers is as the head says.
func TestNothingGoesWrong(t *testing.T) {
	texts, done, held, tired := 0, 0, 0, 0
	for seed := range int64(150) {
		p := newProject(5000 + seed)
		e := engine.New()
		for range 12 {
			s := p.next()
			r := e.Update([]byte(s))
			if len(r.Diags) > 0 || len(r.Sigs) > api.MaxItems/2 {
				continue
			}
			texts++
			c := newCaller(t, s, r)
			for _, head := range c.heads {
				for range 3 {
					names, args, ok := draw(p.maker, head)
					if !ok {
						break
					}
					switch o := run.Call(c.table, head.Name, args, 3000); o.Status {
					case run.Done:
						done++
						if len(head.Result.Pred) > 0 {
							held++
						}
						if !run.Holds(head.Result, o.V, names, args) {
							t.Fatalf("%s\n  %s of %v: %v", s, head.Name, args, o)
						}
					case run.Tire:
						tired++
					default:
						t.Fatalf("%s\n  %s of %v: %v\n  %v", s, head.Name, args, o, r)
					}
				}
			}
		}
	}
	if texts < 400 || done < 2000 || held < 500 || tired < 50 {
		t.Error("drawn one-sidedly:", texts, done, held, tired)
	}
}

// TestWhatGoesWrongIsTold: a call that fails, its arguments being as the head says, is
// told of by a Diag, if it isn't a found predicate that its callers break.
func TestWhatGoesWrongIsTold(t *testing.T) {
	fails := map[int]int{}
	for seed := range int64(150) {
		p := newProject(7000 + seed)
		e := engine.New()
		for range 8 {
			s := p.next()
			r := e.Update([]byte(s))
			if len(r.Sigs) == 0 || len(r.Sigs) > api.MaxItems/2 {
				continue
			}
			c := newCaller(t, s, r)
			for _, head := range c.heads {
				_, args, ok := draw(p.maker, head)
				if !ok {
					continue
				}
				if o := run.Call(c.table, head.Name, args, 3000); o.Status == run.Fail {
					fails[o.Code]++
					if len(r.Diags) == 0 {
						t.Fatalf("%s\n  %s of %v: %v", s, head.Name, args, o)
					}
				}
			}
		}
	}
	for _, code := range []int{api.CodeAssert, api.CodeBound, api.CodeZero} {
		if fails[code] < 10 {
			t.Error("few fails:", code, fails[code])
		}
	}
}
