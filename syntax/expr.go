package syntax

import (
	"whetstone/api"
	"whetstone/big"
	"whetstone/lex"
)

// begins gives up, if no expression begins with the next token. It comes ahead
// of the question how deep that is: what isn't there, or isn't well written,
// is told as that.
func (r *reader) begins() {
	t := r.next()
	switch t.Text {
	case "let", "if", "assert":
		return
	}
	r.partBegins()
}

// partBegins: the same of a part.
func (r *reader) partBegins() {
	t := r.next()
	switch t.Kind {
	case lex.Name:
		return
	case lex.Number:
		if noughtsAhead(t.Text) {
			panic(fault{t.Span, api.ErrForm})
		}
		return
	}
	switch t.Text {
	case "-", "not", "(", "true", "false", "v", "get", "set", "len", "fill":
		return
	}
	r.wrong()
}

// deeper counts an expression or a part that begins; what it answers puts the
// count back.
func (r *reader) deeper() func() {
	if r.deep >= api.MaxDepth {
		panic(fault{r.next().Span, api.ErrDeep})
	}
	r.deep++
	return func() { r.deep-- }
}

func (r *reader) expr() Expr {
	r.begins()
	defer r.deeper()()
	first := r.next()
	var e Expr
	switch first.Text {
	case "let":
		r.take("let")
		name, _ := r.name()
		e = Expr{Kind: Let, Name: name, Args: r.exprs("=", "in")}
	case "if":
		e = Expr{Kind: If, Args: r.exprs("if", "then", "else")}
	case "assert":
		e = Expr{Kind: Assert, Args: r.exprs("assert", "in")}
	default:
		return r.row(anyOf)
	}
	e.Span = r.since(first)
	return e
}

// exprs reads expressions, each behind a word or a sign.
func (r *reader) exprs(behind ...string) []Expr {
	var l []Expr
	for _, text := range behind {
		r.take(text)
		l = append(l, r.expr())
	}
	return l
}

// row reads parts with signs between them that bind at a level, or tighter.
func (r *reader) row(level int) Expr {
	if level == alone {
		return r.part()
	}
	first := r.next()
	e := r.row(level + 1)
	for {
		s := signThatReads(r.next().Text)
		if s.level != level {
			return e
		}
		r.take(s.text)
		e = Expr{Kind: s.kind, Args: []Expr{e, r.row(level + 1)}}
		// By the tokens, not by the parts, whose own brackets aren't theirs.
		e.Span = r.since(first)
		if level == compare {
			return e
		}
	}
}

func (r *reader) part() Expr {
	r.partBegins()
	defer r.deeper()()
	first := r.next()
	var e Expr
	switch {
	case r.takes("("):
		e = r.expr()
		r.take(")")
		return e // with its own Span: these brackets aren't of it
	case r.takes("-"):
		e = Expr{Kind: Neg, Args: []Expr{r.part()}}
	case r.takes("not"):
		e = Expr{Kind: Not, Args: []Expr{r.part()}}
	default:
		e = r.atom()
	}
	e.Span = r.since(first)
	return e
}

func (r *reader) atom() Expr {
	t := r.next()
	r.at++
	switch t.Kind {
	case lex.Number:
		n, _ := big.Parse(t.Text) // partBegins has seen to its form
		return Expr{Kind: Num, Num: n}
	case lex.Name:
		if r.takes("(") {
			return Expr{Kind: Call, Name: t.Text, Args: r.callArgs()}
		}
		return Expr{Kind: Var, Name: t.Text}
	}
	switch t.Text {
	case "true":
		return Expr{Kind: True}
	case "false":
		return Expr{Kind: False}
	case "get":
		return Expr{Kind: Get, Args: r.justArgs(2)}
	case "set":
		return Expr{Kind: Set, Args: r.justArgs(3)}
	case "len":
		return Expr{Kind: Len, Args: r.justArgs(1)}
	case "fill":
		return r.fill()
	}
	return Expr{Kind: Var, Name: t.Text} // v
}

// callArgs reads a call's arguments, behind the bracket ahead of them.
func (r *reader) callArgs() []Expr {
	if r.takes(")") {
		return nil
	}
	var l []Expr
	r.list(func() {
		e := r.expr()
		if len(l) >= api.MaxParams {
			panic(fault{e.Span, api.ErrBig})
		}
		l = append(l, e)
	})
	return l
}

// justArgs reads so many arguments. One more is read too, since it is told
// whole.
func (r *reader) justArgs(count int) []Expr {
	r.take("(")
	l := []Expr{r.expr()}
	for len(l) < count {
		l = append(l, r.exprs(",")...)
	}
	if r.takes(",") {
		panic(fault{r.expr().Span, api.ErrExpect})
	}
	r.take(")")
	return l
}

func (r *reader) fill() Expr {
	r.take("(")
	count := r.length()
	e := Expr{Kind: Fill, Num: big.Of(int64(count)), Args: r.exprs(",")}
	r.take(")")
	return e
}
