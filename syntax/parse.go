package syntax

import (
	"whetstone/api"
	"whetstone/lex"
)

// Parse: an item of its bytes; else the bytes that are wrong.
func Parse(b []byte) (it Item, at api.Span, e api.Errno) {
	tokens, first, e := lex.Tokens(b)
	if e != api.OK {
		return Item{}, api.Span{From: first, To: first + 1}, e
	}
	defer func() {
		if x := recover(); x != nil {
			f := caught(x)
			it, at, e = Item{}, f.at, f.e
		}
	}()
	r := &reader{tokens: tokens}
	it = r.item()
	if t := r.next(); t.Kind != lex.End {
		panic(fault{t.Span, api.ErrMore})
	}
	return it, api.Span{}, api.OK
}

func (r *reader) item() Item {
	var it Item
	if r.takes("qual") {
		it = r.qualifierHead()
	} else {
		it = r.functionHead()
	}
	r.take("=")
	it.Body = r.expr()
	r.take(";")
	return it
}

func (r *reader) functionHead() Item {
	it := Item{Kind: Fn, Pub: r.takes("pub")}
	r.take("fn")
	it.Name, it.At = r.name()
	r.take("(")
	if !r.takes(")") {
		r.list(func() {
			p := r.param(len(it.Params), api.MaxParams)
			r.take(":")
			p.Type = r.typ()
			it.Params = append(it.Params, p)
		})
	}
	r.take("->")
	it.Result = r.typ()
	return it
}

func (r *reader) qualifierHead() Item {
	it := Item{Kind: Qual, Result: Type{Base: api.Bool}}
	it.Name, it.At = r.name()
	r.take("(")
	r.list(func() {
		p := r.param(len(it.Params), api.MaxQuals)
		p.Type = Type{Base: api.Int, Span: p.Span}
		it.Params = append(it.Params, p)
	})
	return it
}

func (r *reader) name() (string, api.Span) {
	t := r.takeKind(lex.Name)
	return t.Text, t.Span
}

// param reads a parameter's name, that has so many ahead of it.
func (r *reader) param(ahead, most int) Param {
	name, at := r.name()
	if ahead >= most {
		panic(fault{at, api.ErrBig})
	}
	return Param{Name: name, Span: at}
}

func (r *reader) typ() Type {
	first := r.next()
	t := r.baseType()
	if r.takes("{") {
		t.Pred = []Expr{r.expr()}
		r.take("}")
	}
	t.Span = r.since(first)
	return t
}

// baseType reads a type as far as its predicate.
func (r *reader) baseType() Type {
	switch {
	case r.takes("int"):
		return Type{Base: api.Int}
	case r.takes("bool"):
		return Type{Base: api.Bool}
	}
	r.take("arr")
	return Type{Base: api.Arr, Len: r.length()}
}
