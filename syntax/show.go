package syntax

import (
	"slices"
	"strconv"
	"strings"

	"whetstone/api"
	"whetstone/big"
)

// writer is a text as far as it is written.
type writer struct {
	text strings.Builder
}

func (w *writer) add(l ...string) {
	for _, s := range l {
		w.text.WriteString(s)
	}
}

// Show: an expression's text, with as few brackets as its meaning needs.
func Show(e Expr) string {
	w := &writer{}
	w.expr(e)
	return w.text.String()
}

// ShowType: a type's text.
func ShowType(t Type) string {
	w := &writer{}
	w.typ(t)
	return w.text.String()
}

// Print: an item's text.
func Print(it Item) string {
	w := &writer{}
	if it.Kind == Qual {
		w.qualifierHead(it)
	} else {
		w.functionHead(it)
	}
	w.add(" = ")
	w.expr(it.Body)
	w.add(";")
	return w.text.String()
}

// list writes so many parts in brackets.
func (w *writer) list(count int, part func(i int)) {
	w.add("(")
	for i := range count {
		if i > 0 {
			w.add(", ")
		}
		part(i)
	}
	w.add(")")
}

func (w *writer) functionHead(it Item) {
	if it.Pub {
		w.add("pub ")
	}
	w.add("fn ", it.Name)
	w.list(len(it.Params), func(i int) {
		w.add(it.Params[i].Name, ": ")
		w.typ(it.Params[i].Type)
	})
	w.add(" -> ")
	w.typ(it.Result)
}

func (w *writer) qualifierHead(it Item) {
	w.add("qual ", it.Name)
	w.list(len(it.Params), func(i int) { w.add(it.Params[i].Name) })
}

func (w *writer) typ(t Type) {
	switch t.Base {
	case api.Bool:
		w.add("bool")
	case api.Arr:
		w.add("arr ", strconv.Itoa(t.Len))
	default:
		w.add("int")
	}
	if len(t.Pred) > 0 {
		w.add("{")
		w.expr(t.Pred[0])
		w.add("}")
	}
}

// partOf: a part of an expression; one that isn't there is the number 0.
func partOf(e Expr, i int) Expr {
	if i < len(e.Args) {
		return e.Args[i]
	}
	return Expr{Kind: Num}
}

func (w *writer) expr(e Expr) {
	switch e.Kind {
	case Num:
		w.add(big.Text(e.Num))
	case True:
		w.add("true")
	case False:
		w.add("false")
	case Var:
		w.add(e.Name)
	case Call:
		w.call(e.Name, e.Args...)
	case Neg:
		w.part("-", partOf(e, 0), alone)
	case Not:
		w.part("not ", partOf(e, 0), alone)
	case Let:
		w.add("let ", e.Name)
		w.exprs(e, " = ", " in ")
	case If:
		w.exprs(e, "if ", " then ", " else ")
	case Assert:
		w.exprs(e, "assert ", " in ")
	case Get:
		w.call("get", partOf(e, 0), partOf(e, 1))
	case Set:
		w.call("set", partOf(e, 0), partOf(e, 1), partOf(e, 2))
	case Len:
		w.call("len", partOf(e, 0))
	case Fill:
		w.call("fill", Expr{Kind: Num, Num: e.Num}, partOf(e, 0))
	default:
		w.rowOrNothing(e)
	}
}

// exprs writes an expression's parts, each behind a text.
func (w *writer) exprs(e Expr, behind ...string) {
	for i, text := range behind {
		w.add(text)
		w.expr(partOf(e, i))
	}
}

func (w *writer) call(name string, args ...Expr) {
	w.add(name)
	w.list(len(args), func(i int) { w.expr(args[i]) })
}

// part writes a part behind a text, in brackets unless it binds at least as
// tightly as a level.
func (w *writer) part(behind string, e Expr, level int) {
	w.add(behind)
	if levelOf(e.Kind) >= level {
		w.expr(e)
		return
	}
	w.add("(")
	w.expr(e)
	w.add(")")
}

// rowOrNothing: what is of no kind is no expression, and counts as the number 0.
func (w *writer) rowOrNothing(e Expr) {
	if _, isRow := signOfKind(e.Kind); !isRow {
		w.add("0")
		return
	}
	w.row(e)
}

func (w *writer) row(e Expr) {
	var rows []Expr // each is the first part of the one ahead of it
	level := open
	for {
		s, isRow := signOfKind(e.Kind)
		if !isRow || s.level < level {
			break
		}
		rows = append(rows, e)
		e, level = partOf(e, 0), s.first()
	}
	w.part("", e, level)
	for _, row := range slices.Backward(rows) {
		s, _ := signOfKind(row.Kind)
		w.part(" "+s.text+" ", partOf(row, 1), s.second())
	}
}
