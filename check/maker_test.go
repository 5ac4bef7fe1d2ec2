package check_test

import (
	"fmt"
	"math/rand"
	"slices"
	"strings"

	"whetstone/api"
	"whetstone/base"
)

type kind = base.Kind

var (
	number = kind{Base: api.Int}
	truth  = kind{Base: api.Bool}
	array  = kind{Base: api.Arr, Len: 4}
)

// fnHead is a function that can be called.
type fnHead struct {
	name   string
	params []kind
	result kind
}

// maker writes right texts of several functions and qualifiers, of a fixed source.
// What may go wrong is mostly guarded, so that there are texts that are passed.
type maker struct {
	*rand.Rand
	heads []fnHead
	names []base.Name
	own   int // how many names were made
}

func newMaker(seed int64) *maker {
	return &maker{Rand: rand.New(rand.NewSource(seed))}
}

func (m *maker) one(of ...string) string { return of[m.Intn(len(of))] }

// rarely: once in so many times.
func (m *maker) rarely(n int) bool { return m.Intn(n) == 0 }

// text is qualifiers and functions, in any order.
func (m *maker) text() string {
	pool := []string{
		"qual nonneg(a) = a >= 0;", "qual pos(a) = a > 0;", "qual nz(a) = a != 0;", "qual in4(a) = 0 <= a and a < 4;", "qual four(a) = a <= 4;",
		"qual le(a, b) = a <= b;", "qual ge(a, b) = a >= b;", "qual same(a, b) = a = b;", "qual sum(a, b, c) = a = b + c;", "qual far(a, b) = a < b or a > b + 2;", "qual odd(a, b) = not (a - b = 1);",
	}
	m.Shuffle(len(pool), func(i, j int) { pool[i], pool[j] = pool[j], pool[i] })
	items := slices.Clone(pool[:m.Intn(6)])
	count := 1 + m.Intn(4)
	m.heads = nil
	for i := range count {
		h := fnHead{name: fmt.Sprint("f", i), result: m.kind()}
		for range m.Intn(4) {
			h.params = append(h.params, m.kind())
		}
		m.heads = append(m.heads, h)
	}
	for _, h := range m.heads {
		items = append(items, m.function(h))
	}
	m.Shuffle(len(items), func(i, j int) { items[i], items[j] = items[j], items[i] })
	return strings.Join(items, "\n")
}

func (m *maker) kind() kind {
	return []kind{number, number, number, number, truth, array}[m.Intn(6)]
}

func (m *maker) function(h fnHead) string {
	m.names = nil
	var l []string
	for i, k := range h.params {
		t := m.typ(k)
		p := fmt.Sprint("p", i)
		m.names = append(m.names, base.Name{Name: p, Kind: k})
		l = append(l, p+": "+t)
	}
	s := m.one("", "", "pub ") + "fn " + h.name + "(" + strings.Join(l, ", ") + ") -> "
	result := m.bare(h.result)
	if m.rarely(5) {
		result = m.typ(h.result)
	}
	return s + result + " = " + m.made(h.result, 1+m.Intn(4)) + ";"
}

func (m *maker) bare(k kind) string {
	switch k {
	case number:
		return "int"
	case truth:
		return "bool"
	}
	return fmt.Sprint("arr ", k.Len)
}

// typ is a type with or without a predicate.
func (m *maker) typ(k kind) string {
	s := m.bare(k)
	if k == array || m.Intn(3) > 0 {
		return s
	}
	if k == truth {
		return s + m.one("{v}", "{not v}", "{v or true}")
	}
	than := "0"
	if l := m.named(number); len(l) > 0 && m.Intn(2) == 0 {
		than = m.one(l...)
	}
	return s + "{" + m.one("v >= ", "v > ", "v != ", "v <= ", "v + 2 >= ", "v * 2 > 1 + ") + than + "}"
}

func (m *maker) named(k kind) []string {
	var l []string
	for _, n := range m.names {
		if n.Kind == k {
			l = append(l, n.Name)
		}
	}
	return l
}

// part is an expression in brackets, if it needs them.
func (m *maker) part(k kind, deep int) string {
	s := m.made(k, deep)
	if strings.Trim(s, "abcdefghijklmnopqrstuvwxyz0123456789") == "" {
		return s
	}
	return "(" + s + ")"
}

// made is any expression of a kind.
func (m *maker) made(k kind, deep int) string {
	if deep <= 0 || m.rarely(6) {
		return m.atom(k)
	}
	deep--
	switch n := m.Intn(8); {
	case n < 2:
		return "if " + m.part(truth, deep) + " then " + m.part(k, deep) + " else " + m.part(k, deep)
	case n == 2:
		return m.let(k, deep)
	case n == 3 && m.rarely(3):
		return "assert " + m.part(truth, deep) + " in " + m.part(k, deep)
	case n < 6:
		if s, is := m.call(k, deep); is {
			return s
		}
	}
	switch k {
	case number:
		return m.number(deep)
	case truth:
		return m.truth(deep)
	}
	if m.rarely(3) {
		return "fill(4, " + m.part(number, deep) + ")"
	}
	a := m.part(array, deep)
	return m.guarded("0 <= $ and $ < 4", "set("+a+", $, "+m.part(number, deep)+")", a, deep)
}

func (m *maker) atom(k kind) string {
	if l := m.named(k); len(l) > 0 && m.Intn(5) > 0 {
		return m.one(l...)
	}
	switch k {
	case number:
		return m.one("0", "1", "2", "3", "-1")
	case truth:
		return m.one("true", "false")
	}
	return fmt.Sprintf("fill(4, %d)", m.Intn(9))
}

// guarded is what is done with a number, $, if it is as it must be; else something
// else. Now and then nobody asks.
func (m *maker) guarded(must, done, other string, deep int) string {
	if m.rarely(3) {
		return strings.ReplaceAll(done, "$", m.part(number, deep))
	}
	m.own++
	x := fmt.Sprint("x", m.own)
	s := "let " + x + " = " + m.part(number, deep) + " in "
	return s + strings.ReplaceAll("if "+must+" then "+done, "$", x) + " else " + other
}

func (m *maker) let(k kind, deep int) string {
	own := m.kind()
	is := m.part(own, deep)
	m.own++
	name := fmt.Sprint("x", m.own)
	m.names = append(m.names, base.Name{Name: name, Kind: own})
	s := "let " + name + " = " + is + " in " + m.part(k, deep)
	m.names = m.names[:len(m.names)-1]
	return s
}

// call is one of a function of a kind, if there is any.
func (m *maker) call(k kind, deep int) (string, bool) {
	for _, i := range m.Perm(len(m.heads)) {
		h := m.heads[i]
		if h.result != k {
			continue
		}
		var args []string
		for _, k := range h.params {
			args = append(args, m.part(k, min(deep, 1)))
		}
		return h.name + "(" + strings.Join(args, ", ") + ")", true
	}
	return "", false
}

func (m *maker) number(deep int) string {
	switch n := m.Intn(9); {
	case n < 1:
		return m.guarded("0 <= $ and $ < 4", "get("+m.part(array, deep)+", $)", "0", deep)
	case n < 2:
		return m.guarded("$ != 0", m.part(number, deep)+m.one(" / ", " % ")+"$", "1", deep)
	case n < 3:
		return m.part(number, deep) + m.one(" / ", " % ") + m.one("2", "3", "-2")
	case n < 4:
		return m.part(number, deep) + " * " + m.part(number, deep)
	case n < 5:
		return "-" + m.part(number, deep)
	}
	return m.part(number, deep) + m.one(" + ", " - ") + m.part(number, deep)
}

func (m *maker) truth(deep int) string {
	switch n := m.Intn(9); {
	case n < 1:
		return "not " + m.part(truth, deep)
	case n < 3:
		return m.part(truth, deep) + m.one(" and ", " or ") + m.part(truth, deep)
	case n < 4:
		return m.part(truth, deep) + m.one(" = ", " != ") + m.part(truth, deep)
	}
	return m.part(number, deep) + m.one(" < ", " <= ", " > ", " >= ", " = ", " != ") + m.part(number, deep)
}
