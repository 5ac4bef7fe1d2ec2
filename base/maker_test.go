package base_test

import (
	"fmt"
	"math/rand"
	"strings"

	"whetstone/api"
	"whetstone/base"
)

type kind = base.Kind

var (
	number = kind{Base: api.Int}
	truth  = kind{Base: api.Bool}
)

// fnHead is a function that can be called.
type fnHead struct {
	name   string
	params []kind
	result kind
}

// maker writes items by the chapter's words, of a fixed source. They are right,
// unless it slips, or breaks one of them.
type maker struct {
	*rand.Rand
	heads  []fnHead
	names  []base.Name
	inPred bool
	slips  int       // how many of a hundred expressions are any other
	breaks int       // how many expressions are made till one is broken
	e      api.Errno // of what is broken: OK, if nothing is
}

func newMaker(seed int64) *maker {
	m := &maker{Rand: rand.New(rand.NewSource(seed)), breaks: -1}
	m.heads = []fnHead{
		{"num", nil, number}, {"yes", nil, truth}, {"three", nil, arr(3)}, {"odd", []kind{number}, truth}, {"pick", []kind{arr(3), number, truth}, number}, {"turn", []kind{arr(2), arr(3)}, arr(2)},
	}
	return m
}

func arr(n int) kind { return kind{Base: api.Arr, Len: n} }

func (m *maker) one(of ...string) string { return of[m.Intn(len(of))] }

func (m *maker) kind() kind {
	return []kind{number, number, truth, arr(2), arr(3)}[m.Intn(5)]
}

func typeText(k kind) string {
	switch k.Base {
	case api.Int:
		return "int"
	case api.Bool:
		return "bool"
	}
	return fmt.Sprint("arr ", k.Len)
}

// typ is a type with or without a predicate.
func (m *maker) typ(k kind) string {
	s := typeText(k)
	if k.Base == api.Arr && m.Intn(100) >= m.slips || m.Intn(2) == 0 {
		return s
	}
	m.names = append(m.names, base.Name{Name: "v", Kind: k})
	s += "{" + m.pred() + "}"
	m.names = m.names[:len(m.names)-1]
	return s
}

func (m *maker) pred() string {
	m.inPred = true
	s := m.part(truth, 1+m.Intn(3), true)
	m.inPred = false
	return s
}

func (m *maker) qualifier(name string) string {
	m.names = nil
	var params []string
	for i := range 1 + m.Intn(3) {
		params = append(params, m.param(i, number))
	}
	return "qual " + name + "(" + strings.Join(params, ", ") + ") = " + m.pred() + ";"
}

// param is a name for one more parameter, which is known from then on.
func (m *maker) param(i int, k kind) string {
	name := fmt.Sprint("p", i)
	if m.Intn(300) < m.slips {
		name = "p0"
	}
	m.names = append(m.names, base.Name{Name: name, Kind: k})
	return name
}

func (m *maker) function(name string, result kind, params ...kind) string {
	m.names = nil
	var l []string
	for i, k := range params {
		t := m.typ(k)
		l = append(l, m.param(i, k)+": "+t)
	}
	s := m.one("", "pub ") + "fn " + name + "(" + strings.Join(l, ", ") + ") -> " + m.typ(result)
	return s + " = " + m.part(result, 1+m.Intn(4), true) + ";"
}

// ofHead is a function with a head's name and kinds.
func (m *maker) ofHead(h fnHead) string { return m.function(h.name, h.result, h.params...) }

// expr is an expression of a kind, that may be put where any can.
func (m *maker) expr(k kind, deep int) string { return m.part(k, deep, false) }

// part is an expression in brackets, if it needs them. Must: another kind there
// would be told there.
func (m *maker) part(k kind, deep int, must bool) string {
	m.breaks--
	var s string
	switch {
	case m.breaks == 0:
		return m.broken(k, must)
	case m.Intn(100) < m.slips:
		s = m.slip(deep)
	default:
		s = m.made(k, deep)
	}
	if strings.Trim(s, "abcdefghijklmnopqrstuvwxyz0123456789") == "" {
		return s
	}
	return "(" + s + ")"
}

// made is any expression of a kind.
func (m *maker) made(k kind, deep int) string {
	if deep <= 0 || m.Intn(5) == 0 {
		return m.atom(k)
	}
	if !m.inPred && m.Intn(2) == 0 {
		return m.anyKind(k, deep-1)
	}
	switch k.Base {
	case api.Int:
		return m.number(deep - 1)
	case api.Bool:
		return m.truth(deep - 1)
	}
	if k.Len == 3 || m.Intn(2) == 0 {
		return "set(" + m.expr(k, deep-1) + ", " + m.part(number, deep-1, true) + ", " + m.part(number, deep-1, true) + ")"
	}
	return fmt.Sprintf("fill(%d, %s)", k.Len, m.part(number, deep-1, true))
}

// named are the names of a kind that may be used.
func (m *maker) named(k kind) []string {
	var l []string
	for _, n := range m.names {
		if n.Kind == k {
			l = append(l, n.Name)
		}
	}
	return l
}

func (m *maker) atom(k kind) string {
	if l := m.named(k); len(l) > 0 && m.Intn(4) > 0 {
		return l[m.Intn(len(l))]
	}
	switch k.Base {
	case api.Int:
		return m.one("0", "1", "42", "98765432109876543210")
	case api.Bool:
		return m.one("true", "false")
	}
	return fmt.Sprintf("fill(%d, %d)", k.Len, m.Intn(9))
}

func (m *maker) number(deep int) string {
	n := m.Intn(8)
	if n == 0 && !m.inPred {
		return m.ofArray(deep)
	}
	a := m.part(number, deep, true)
	switch {
	case n < 2:
		return "-" + a
	case n < 4:
		return a + m.one(" + ", " - ") + m.part(number, deep, true)
	case n < 6 && !m.inPred:
		return a + m.one(" * ", " / ", " % ") + m.part(number, deep, true)
	}
	b := m.one("2", "(1 - 3)", "-(4 * 5)")
	if m.Intn(2) == 0 {
		return b + " * " + a
	}
	return a + " * " + b
}

func (m *maker) ofArray(deep int) string {
	s := m.expr(arr(m.Intn(4)), deep)
	if m.Intn(2) == 0 {
		return "len(" + s + ")"
	}
	return "get(" + s + ", " + m.part(number, deep, true) + ")"
}

func (m *maker) truth(deep int) string {
	switch n := m.Intn(8); {
	case n < 1:
		return "not " + m.part(truth, deep, true)
	case n < 4:
		return m.part(truth, deep, true) + m.one(" and ", " or ") + m.part(truth, deep, true)
	case n < 5 && !m.inPred:
		return m.expr(truth, deep) + m.one(" = ", " != ") + m.part(truth, deep, true)
	case n < 6:
		return m.expr(number, deep) + m.one(" = ", " != ") + m.part(number, deep, true)
	}
	return m.part(number, deep, true) + m.one(" < ", " <= ", " > ", " >= ") + m.part(number, deep, true)
}

// anyKind is an expression that may be of each kind, and not in a predicate.
func (m *maker) anyKind(k kind, deep int) string {
	switch m.Intn(4) {
	case 0:
		return "if " + m.part(truth, deep, true) + " then " + m.expr(k, deep) + " else " + m.part(k, deep, true)
	case 1:
		return "assert " + m.part(truth, deep, true) + " in " + m.expr(k, deep)
	case 2:
		own := m.kind()
		is := m.expr(own, deep)
		name := fmt.Sprint("x", len(m.names))
		m.names = append(m.names, base.Name{Name: name, Kind: own})
		s := "let " + name + " = " + is + " in " + m.expr(k, deep)
		m.names = m.names[:len(m.names)-1]
		return s
	}
	for _, i := range m.Perm(len(m.heads)) {
		if h := m.heads[i]; h.result == k {
			return m.call(h.name, h.params, deep)
		}
	}
	return m.atom(k)
}

func (m *maker) call(name string, params []kind, deep int) string {
	var args []string
	for _, k := range params {
		args = append(args, m.part(k, deep, true))
	}
	return name + "(" + strings.Join(args, ", ") + ")"
}

// slip is an expression that may be wrong in any way.
func (m *maker) slip(deep int) string {
	was := m.inPred
	defer func() { m.inPred = was }()
	m.inPred = was && m.Intn(3) > 0
	switch m.Intn(8) {
	case 0:
		return m.one("zz", "v", "p0", "p5", "x0", "x1", "num")
	case 1:
		return m.call(m.one("zz", "num", "odd", "pick", "p0"), []kind{number, truth, arr(3)}[:m.Intn(4)], deep-1)
	case 2:
		return "let " + m.one("p0", "p1", "x1", "y") + " = " + m.expr(m.kind(), deep-1) + " in " + m.expr(m.kind(), deep-1)
	case 3:
		return m.expr(m.kind(), deep-1) + m.one(" = ", " != ", " * ", " and ", " + ") + m.expr(m.kind(), deep-1)
	}
	return m.made(m.kind(), deep)
}

// broken is an expression with a fault that is marked.
func (m *maker) broken(k kind, must bool) string {
	was := m.inPred
	defer func() { m.inPred = was }()
	switch n := m.Intn(5); {
	case n == 0 && must:
		m.e = api.ErrType
		other := truth
		if k.Base == api.Bool {
			other = number
		}
		return "([" + m.made(other, 2) + "])"
	case n <= 1:
		m.e = api.ErrName
		return m.one("[zz]", "[p9]", "[num]")
	case was:
		m.e = api.ErrPred
		m.inPred = false
		return "([" + m.one("1 / 2", "zz % 0", "num()", "zz(1)", "2 * (p0 * 3) * zz", "let x = 1 in zz", "if 1 then 2 else 3", "assert 1 in 2", "get(zz, 1)", "set(1, 2, 3)", "len(1)", "fill(3, zz)", "true = zz", "false != 1", m.anyKind(k, 1)+" / 2") + "])"
	case n == 2:
		m.e = api.ErrName
		return m.one("[zz(1)]", "[p0(true + 1)]", "[v]")
	case n == 3 || len(m.names) == 0:
		m.e = api.ErrArgs
		return m.one("[num(zz)]", "[odd()]", "[odd(1, 2)]", "[pick(true, true)]", "[turn()]")
	}
	m.e = api.ErrTwice
	name := m.names[m.Intn(len(m.names))].Name
	return "([let " + name + " = " + m.made(m.kind(), 1) + " in " + m.one("zz", "1 + true", m.made(k, 1)) + "])"
}
