package gen_test

import (
	"fmt"
	"math/rand"
	"strings"

	"whetstone/api"
	"whetstone/base"
)

type kind = base.Kind

var (
	number = kind{Base: api.Int}
	truth  = kind{Base: api.Bool}
	array  = kind{Base: api.Arr, Len: 3}
)

// fnHead is a function that can be called.
type fnHead struct {
	name   string
	params []kind
	result kind
}

// maker writes right functions, of a fixed source.
type maker struct {
	*rand.Rand
	heads  []fnHead
	names  []base.Name
	inPred bool
	sums   bool // nothing but what sums can tell: no products, no arrays, no calls
}

func newMaker(seed int64) *maker {
	return &maker{Rand: rand.New(rand.NewSource(seed)), heads: []fnHead{
		{"num", nil, number}, {"odd", []kind{number, number}, truth}, {"pick", []kind{number, array, truth, number}, number}, {"turn", []kind{array, number}, array}, {"step", []kind{number, number, number}, number},
	}}
}

func (m *maker) one(of ...string) string { return of[m.Intn(len(of))] }

// text is all functions that can be called, and the one that is asked for last.
func (m *maker) text() string {
	var s strings.Builder
	if !m.sums {
		for _, h := range m.heads {
			s.WriteString(m.function(h.name, h.result, 1, h.params...) + " ")
		}
	}
	var params []kind
	for range m.Intn(5) {
		params = append(params, m.kind())
	}
	s.WriteString(m.function("f", m.kind(), 1+m.Intn(5), params...))
	return s.String()
}

func (m *maker) kind() kind {
	kinds := []kind{number, number, number, truth, truth, array}
	if m.sums {
		kinds = kinds[:5]
	}
	return kinds[m.Intn(len(kinds))]
}

func (m *maker) function(name string, result kind, deep int, params ...kind) string {
	m.names = nil
	var l []string
	for i, k := range params {
		t := m.typ(k)
		p := fmt.Sprint("p", i)
		m.names = append(m.names, base.Name{Name: p, Kind: k})
		l = append(l, p+": "+t)
	}
	s := m.one("", "", "pub ") + "fn " + name + "(" + strings.Join(l, ", ") + ") -> " + m.typ(result)
	return s + " = " + m.part(result, deep) + ";"
}

// typ is a type with or without a predicate.
func (m *maker) typ(k kind) string {
	if k.Base == api.Arr {
		return fmt.Sprint("arr ", k.Len)
	}
	s := "int"
	if k == truth {
		s = "bool"
	}
	if m.Intn(2) == 0 {
		return s
	}
	m.names = append(m.names, base.Name{Name: "v", Kind: k})
	m.inPred = true
	s += "{" + m.made(truth, m.Intn(3)) + "}"
	m.inPred = false
	m.names = m.names[:len(m.names)-1]
	return s
}

// part is an expression in brackets, if it needs them.
func (m *maker) part(k kind, deep int) string {
	s := m.made(k, deep)
	if strings.Trim(s, "abcdefghijklmnopqrstuvwxyz0123456789") == "" {
		return s
	}
	return "(" + s + ")"
}

// made is any expression of a kind.
func (m *maker) made(k kind, deep int) string {
	if deep <= 0 || m.Intn(6) == 0 {
		return m.atom(k)
	}
	if !m.inPred && m.Intn(2) == 0 {
		return m.anyKind(k, deep-1)
	}
	switch k {
	case number:
		return m.number(deep - 1)
	case truth:
		return m.truth(deep - 1)
	}
	if m.Intn(3) > 0 {
		return "set(" + m.part(array, deep-1) + ", " + m.part(number, deep-1) + ", " + m.part(number, deep-1) + ")"
	}
	return "fill(3, " + m.part(number, deep-1) + ")"
}

func (m *maker) atom(k kind) string {
	var l []string
	for _, n := range m.names {
		if n.Kind == k {
			l = append(l, n.Name)
		}
	}
	if len(l) > 0 && m.Intn(4) > 0 {
		return m.one(l...)
	}
	switch k {
	case number:
		return m.one("0", "1", "2", "3", "7")
	case truth:
		return m.one("true", "false")
	}
	return fmt.Sprintf("fill(3, %d)", m.Intn(9))
}

func (m *maker) number(deep int) string {
	n := m.Intn(9)
	if n == 0 && !m.inPred && !m.sums {
		if m.Intn(4) == 0 {
			return "len(" + m.part(array, deep) + ")"
		}
		return "get(" + m.part(array, deep) + ", " + m.part(number, deep) + ")"
	}
	a := m.part(number, deep)
	switch {
	case n < 2:
		return "-" + a
	case n < 5:
		return a + m.one(" + ", " - ") + m.part(number, deep)
	case n < 7 && !m.inPred && !m.sums:
		return a + m.one(" * ", " / ", " % ") + m.part(number, deep)
	case n < 7 && !m.inPred:
		return a + m.one(" / ", " % ") + m.one("1", "2", "3", "-2", "(2 - 5)")
	}
	b := m.one("2", "(1 - 3)", "-(1 * 3)")
	if m.Intn(2) == 0 {
		return b + " * " + a
	}
	return a + " * " + b
}

func (m *maker) truth(deep int) string {
	switch n := m.Intn(9); {
	case n < 1:
		return "not " + m.part(truth, deep)
	case n < 4:
		return m.part(truth, deep) + m.one(" and ", " or ") + m.part(truth, deep)
	case n < 6 && !m.inPred:
		return m.part(truth, deep) + m.one(" = ", " != ") + m.part(truth, deep)
	}
	return m.part(number, deep) + m.one(" < ", " <= ", " > ", " >= ", " = ", " != ") + m.part(number, deep)
}

// anyKind is an expression that may be of each kind, and not in a predicate.
func (m *maker) anyKind(k kind, deep int) string {
	n := m.Intn(5)
	switch {
	case n < 2:
		return "if " + m.part(truth, deep) + " then " + m.part(k, deep) + " else " + m.part(k, deep)
	case n == 2:
		return "assert " + m.part(truth, deep) + " in " + m.part(k, deep)
	case n == 3 || m.sums:
		own := m.kind()
		is := m.part(own, deep)
		name := fmt.Sprint("x", len(m.names))
		m.names = append(m.names, base.Name{Name: name, Kind: own})
		s := "let " + name + " = " + is + " in " + m.part(k, deep)
		m.names = m.names[:len(m.names)-1]
		return s
	}
	for _, i := range m.Perm(len(m.heads)) {
		if h := m.heads[i]; h.result == k {
			return m.call(h, deep)
		}
	}
	return m.atom(k)
}

func (m *maker) call(h fnHead, deep int) string {
	var args []string
	for _, k := range h.params {
		args = append(args, m.part(k, deep))
	}
	return h.name + "(" + strings.Join(args, ", ") + ")"
}
