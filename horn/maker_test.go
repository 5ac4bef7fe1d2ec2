package horn_test

import (
	"fmt"
	"math/rand"
	"strings"
)

// maker writes right texts of some functions that call each other, and qualifiers, of
// a fixed source.
type maker struct {
	*rand.Rand
	params [][]string // of each function, the types of its parameters
	nums   []string
	truths []string
	lets   int
}

func newMaker(seed int64) *maker {
	return &maker{Rand: rand.New(rand.NewSource(seed))}
}

func (m *maker) one(of ...string) string { return of[m.Intn(len(of))] }

// text is so many qualifiers and functions at most.
func (m *maker) text(quals, functions int) string {
	pool := []string{
		"a >= 0", "a > 0", "a != 0", "a < 3", "a = 1", "a <= b", "a >= b", "a = b", "a > b or a = 0", "not (a = b + 1)", "2 * a >= b", "a - b <= 2 and b <= a",
	}
	var s strings.Builder
	for i, n := range m.Perm(len(pool))[:1+m.Intn(quals)] {
		params := "a"
		if strings.Contains(pool[n], "b") {
			params = "a, b"
		}
		fmt.Fprintf(&s, "qual q%d(%s) = %s;\n", i, params, pool[n])
	}
	m.params = nil
	for range 1 + m.Intn(functions) {
		var types []string
		for range m.Intn(3) {
			types = append(types, m.one("int", "int", "int", "int{v >= 0}", "bool"))
		}
		m.params = append(m.params, types)
	}
	for i := range m.params {
		s.WriteString(m.function(i) + "\n")
	}
	return s.String()
}

func (m *maker) function(i int) string {
	m.nums, m.truths = nil, nil
	var params []string
	for n, t := range m.params[i] {
		p := fmt.Sprint("p", n)
		params = append(params, p+": "+t)
		if t == "bool" {
			m.truths = append(m.truths, p)
		} else {
			m.nums = append(m.nums, p)
		}
	}
	result := m.one("int", "int", "int", "int", "int{v != 0}")
	return m.one("", "", "", "pub ") + fmt.Sprintf("fn f%d(%s) -> %s = %s;", i, strings.Join(params, ", "), result, m.number(1+m.Intn(3)))
}

// number is a number's expression, in brackets.
func (m *maker) number(deep int) string {
	if deep <= 0 || m.Intn(6) == 0 {
		if len(m.nums) > 0 && m.Intn(4) > 0 {
			return m.one(m.nums...)
		}
		return m.one("0", "1", "2", "(-1)")
	}
	deep--
	switch m.Intn(8) {
	case 0, 1, 2:
		return "(if " + m.truth(deep) + " then " + m.number(deep) + " else " + m.number(deep) + ")"
	case 3, 4:
		return m.call(deep)
	case 5:
		is := m.number(deep)
		m.lets++
		name := fmt.Sprint("x", m.lets)
		m.nums = append(m.nums, name)
		s := "(let " + name + " = " + is + " in " + m.number(deep) + ")"
		m.nums = m.nums[:len(m.nums)-1]
		return s
	case 6:
		return "(" + m.number(deep) + m.one(" / 2", " % 2", " * 2", " * "+m.number(0)) + ")"
	}
	return "(" + m.number(deep) + m.one(" + ", " - ") + m.number(deep) + ")"
}

func (m *maker) truth(deep int) string {
	if len(m.truths) > 0 && m.Intn(4) == 0 {
		return m.one(m.truths...)
	}
	if m.Intn(8) == 0 {
		return "(" + m.truth(deep-1) + m.one(" and ", " or ", " = ") + m.truth(deep-1) + ")"
	}
	return "(" + m.number(deep-1) + m.one(" < ", " <= ", " > ", " = ", " != ") + m.number(deep-1) + ")"
}

func (m *maker) call(deep int) string {
	i := m.Intn(len(m.params))
	var args []string
	for _, t := range m.params[i] {
		if t == "bool" {
			args = append(args, m.truth(0))
		} else {
			args = append(args, m.number(min(deep, 1)))
		}
	}
	return fmt.Sprintf("f%d(%s)", i, strings.Join(args, ", "))
}
