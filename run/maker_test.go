package run_test

import (
	"fmt"
	"math/rand"
	"strings"

	"whetstone/api"
	"whetstone/base"
	"whetstone/big"
	"whetstone/run"
)

type kind = base.Kind

var (
	anInt  = kind{Base: api.Int}
	aTruth = kind{Base: api.Bool}
)

// fnHead is a function that can be called.
type fnHead struct {
	name   string
	params []kind
	result kind
}

// maker writes right texts of several functions, of a fixed source. Often something
// goes wrong.
type maker struct {
	*rand.Rand
	heads []fnHead
	names []base.Name
	own   int  // how many names were made
	pred  bool // within a predicate
}

func newMaker(seed int64) *maker {
	return &maker{Rand: rand.New(rand.NewSource(seed))}
}

func (m *maker) one(of ...string) string { return of[m.Intn(len(of))] }

func (m *maker) text() string {
	m.heads = nil
	for i := range 1 + m.Intn(4) {
		h := fnHead{name: fmt.Sprint("f", i), result: m.kind()}
		for range m.Intn(4) {
			h.params = append(h.params, m.kind())
		}
		m.heads = append(m.heads, h)
	}
	var s strings.Builder
	for _, h := range m.heads {
		s.WriteString(m.one("", "\n", " // ;\n ", "pub ") + m.function(h))
	}
	return s.String()
}

func (m *maker) kind() kind {
	if m.Intn(5) == 0 {
		return kind{Base: api.Arr, Len: m.Intn(4)}
	}
	return []kind{anInt, anInt, aTruth}[m.Intn(3)]
}

func (m *maker) function(h fnHead) string {
	m.names = nil
	var l []string
	for i, k := range h.params {
		p := fmt.Sprint("p", i)
		l = append(l, p+": "+m.typ(k))
		m.names = append(m.names, base.Name{Name: p, Kind: k})
	}
	return "fn " + h.name + "(" + strings.Join(l, ", ") + ") -> " + m.typ(h.result) + " = " + m.made(h.result, 1+m.Intn(5)) + ";"
}

// typ is a type, now and then with a predicate.
func (m *maker) typ(k kind) string {
	s := []string{"", "int", "bool", fmt.Sprint("arr ", k.Len)}[k.Base]
	if k.Base == api.Arr || m.Intn(4) > 0 {
		return s
	}
	return s + "{" + m.predicate(k) + "}"
}

// predicate is one over v and the names that are there.
func (m *maker) predicate(k kind) string {
	names := m.names
	m.names = append(names[:len(names):len(names)], base.Name{Name: "v", Kind: k})
	m.pred = true
	s := m.made(aTruth, m.Intn(4))
	m.pred = false
	m.names = names
	return s
}

func (m *maker) named(k kind) []string {
	var l []string
	for _, n := range m.names {
		if n.Kind == k {
			l = append(l, n.Name)
		}
	}
	return l
}

func (m *maker) made(k kind, deep int) string {
	if deep <= 0 || m.Intn(7) == 0 {
		return m.atom(k)
	}
	deep--
	if !m.pred {
		switch m.Intn(12) {
		case 0, 1:
			return "(if " + m.made(aTruth, deep) + " then " + m.made(k, deep) + " else " + m.made(k, deep) + ")"
		case 2:
			return m.let(k, deep)
		case 3:
			return "(assert " + m.made(aTruth, deep) + " in " + m.made(k, deep) + ")"
		case 4, 5:
			if s := m.call(k, deep); s != "" {
				return s
			}
		}
	}
	switch k.Base {
	case api.Int:
		return m.number(deep)
	case api.Bool:
		return m.truth(deep)
	}
	if m.Intn(3) == 0 {
		return fmt.Sprintf("fill(%d, %s)", k.Len, m.made(anInt, deep))
	}
	return fmt.Sprintf("set(%s, %s, %s)", m.made(k, deep), m.place(k, deep), m.made(anInt, deep))
}

func (m *maker) atom(k kind) string {
	if l := m.named(k); len(l) > 0 && m.Intn(5) > 0 {
		return m.one(l...)
	}
	switch k.Base {
	case api.Int:
		return m.one("0", "1", "2", "3", "(-1)", "(-2)", "4294967295", "4294967296", "79228162514264337593543950335")
	case api.Bool:
		return m.one("true", "false")
	}
	return fmt.Sprintf("fill(%d, %d)", k.Len, m.Intn(9))
}

// place is mostly one that an array has.
func (m *maker) place(k kind, deep int) string {
	if m.Intn(3) == 0 {
		return m.made(anInt, deep)
	}
	return fmt.Sprint(m.Intn(max(1, k.Len)))
}

func (m *maker) let(k kind, deep int) string {
	own := m.kind()
	is := m.made(own, deep)
	m.own++
	name := fmt.Sprint("x", m.own)
	m.names = append(m.names, base.Name{Name: name, Kind: own})
	s := "(let " + name + " = " + is + " in " + m.made(k, deep) + ")"
	m.names = m.names[:len(m.names)-1]
	return s
}

func (m *maker) call(k kind, deep int) string {
	for _, i := range m.Perm(len(m.heads)) {
		h := m.heads[i]
		if h.result != k {
			continue
		}
		var args []string
		for _, k := range h.params {
			args = append(args, m.made(k, min(deep, 1)))
		}
		return h.name + "(" + strings.Join(args, ", ") + ")"
	}
	return ""
}

func (m *maker) number(deep int) string {
	a := m.made(anInt, deep)
	switch n := m.Intn(10); {
	case n < 1 && !m.pred:
		k := kind{Base: api.Arr, Len: m.Intn(4)}
		return "get(" + m.made(k, deep) + ", " + m.place(k, deep) + ")"
	case n < 2 && !m.pred:
		return "len(" + m.made(kind{Base: api.Arr, Len: m.Intn(4)}, deep) + ")"
	case n < 4 && !m.pred:
		return "(" + a + m.one(" / ", " % ") + m.made(anInt, deep) + ")"
	case n < 6 && m.pred:
		return "(" + a + " * " + m.one("3", "(1 + 1)", "-(4294967296 * 2)") + ")"
	case n < 6:
		return "(" + a + " * " + m.made(anInt, deep) + ")"
	case n < 7:
		return "-" + a
	}
	return "(" + a + m.one(" + ", " - ") + m.made(anInt, deep) + ")"
}

func (m *maker) truth(deep int) string {
	switch n := m.Intn(9); {
	case n < 1:
		return "not " + m.made(aTruth, deep)
	case n < 3:
		return "(" + m.made(aTruth, deep) + m.one(" and ", " or ") + m.made(aTruth, deep) + ")"
	case n < 4 && !m.pred:
		return "(" + m.made(aTruth, deep) + m.one(" = ", " != ") + m.made(aTruth, deep) + ")"
	}
	return "(" + m.made(anInt, deep) + m.one(" < ", " <= ", " > ", " >= ", " = ", " != ") + m.made(anInt, deep) + ")"
}

// argument is any value of a kind.
func (m *maker) argument(k kind) val {
	switch k.Base {
	case api.Int:
		if m.Intn(5) == 0 {
			return value(m.one("4294967295", "-4294967296", "18446744073709551615", "123456789012345678901234567890"))
		}
		return run.Num(big.Of(int64(m.Intn(13) - 6)))
	case api.Bool:
		return run.Truth(m.Intn(2) == 0)
	}
	var l []big.Int
	for range k.Len {
		l = append(l, big.Of(int64(m.Intn(13)-6)))
	}
	return run.Array(l)
}

func (m *maker) arguments(l []kind) []val {
	var args []val
	for _, k := range l {
		args = append(args, m.argument(k))
	}
	return args
}
