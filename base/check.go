package base

import (
	"whetstone/api"
	"whetstone/syntax"
)

// checker looks for an item's first fault, and gives up with it.
type checker struct {
	table  *Table
	item   int
	names  []Name // those that may be used
	inPred bool   // is it within a predicate?
}

// Check: an item's first fault; false: it has none.
func (t *Table) Check(i int) (f Fault, bad bool) {
	it, there := t.Item(i)
	if !there {
		return Fault{}, false
	}
	defer func() {
		if x := recover(); x != nil {
			f, bad = caught(x), true
		}
	}()
	c := &checker{table: t, item: i}
	c.whole(it)
	return Fault{}, false
}

// caught: the fault that recover brought. What isn't of this package goes on,
// since it tells of something else.
func caught(x any) Fault {
	f, own := x.(Fault)
	if !own {
		panic(x)
	}
	return f
}

func (c *checker) wrong(at api.Span, e api.Errno) {
	panic(Fault{Item: c.item, Span: at, E: e})
}

func (c *checker) whole(it syntax.Item) {
	if first, _ := c.table.Find(it.Kind, it.Name); first < c.item {
		c.wrong(it.At, api.ErrTwice)
	}
	for _, p := range it.Params {
		c.param(p)
	}
	if it.Kind == syntax.Qual {
		c.predicate(it.Body)
		return
	}
	c.typ(it.Result)
	c.must(it.Body, KindOf(it.Result))
}

func (c *checker) param(p syntax.Param) {
	c.typ(p.Type)
	if _, there := c.named(p.Name); there {
		c.wrong(p.Span, api.ErrTwice)
	}
	c.push(p.Name, KindOf(p.Type))
}

func (c *checker) typ(t syntax.Type) {
	if len(t.Pred) == 0 {
		return
	}
	if t.Base == api.Arr {
		c.wrong(t.Span, api.ErrPred)
	}
	c.push("v", KindOf(t))
	c.predicate(t.Pred[0])
	c.pop()
}

func (c *checker) predicate(e syntax.Expr) {
	c.inPred = true
	c.must(e, truth)
	c.inPred = false
}

// named: what a name stands for; false: there is no such name.
func (c *checker) named(name string) (Kind, bool) {
	for _, n := range c.names {
		if n.Name == name {
			return n.Kind, true
		}
	}
	return Kind{}, false
}

func (c *checker) push(name string, k Kind) {
	c.names = append(c.names, Name{Name: name, Kind: k})
}

// pop takes back the name that was pushed last.
func (c *checker) pop() {
	c.names = c.names[:len(c.names)-1]
}
