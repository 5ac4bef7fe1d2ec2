package engine_test

import (
	"fmt"
	"math/rand"
	"slices"
	"strings"

	"whetstone/api"
	"whetstone/base"
)

type kind = base.Kind

var (
	number = kind{Base: api.Int}
	truth  = kind{Base: api.Bool}
	array  = kind{Base: api.Arr, Len: 4}
)

// maker writes right bodies and types, of a fixed source. What may go wrong is mostly
// guarded, so that there are texts that are passed.
type maker struct {
	*rand.Rand
	functions []*function // those that can be called
	names     []base.Name
	own       int // how many names were made
}

func newMaker(seed int64) *maker {
	return &maker{Rand: rand.New(rand.NewSource(seed))}
}

func (m *maker) one(of ...string) string { return of[m.Intn(len(of))] }

// rarely: once in so many times.
func (m *maker) rarely(n int) bool { return m.Intn(n) == 0 }

func (m *maker) kind() kind {
	return []kind{number, number, number, number, truth, array}[m.Intn(6)]
}

func bare(k kind) string {
	return []string{"", "int", "bool", fmt.Sprint("arr ", k.Len)}[k.Base]
}

// typ is a type with or without a predicate, for a place that has these names ahead.
func (m *maker) typ(k kind, ahead []base.Name) string {
	s := bare(k)
	if k == array || m.Intn(3) > 0 {
		return s
	}
	if k == truth {
		return s + m.one("{v}", "{not v}", "{v or true}")
	}
	than := "0"
	if l := named(ahead, number); len(l) > 0 && m.Intn(2) == 0 {
		than = m.one(l...)
	}
	return s + "{" + m.one("v >= ", "v > ", "v != ", "v <= ", "v + 2 >= ", "v * 2 > 1 + ") + than + "}"
}

func named(names []base.Name, k kind) []string {
	var l []string
	for _, n := range names {
		if n.Kind == k {
			l = append(l, n.Name)
		}
	}
	return l
}

// part is an expression in brackets, if it needs them.
func (m *maker) part(k kind, deep int) string {
	s := m.made(k, deep)
	if strings.Trim(s, "abcdefghijklmnopqrstuvwxyz0123456789") == "" {
		return s
	}
	return "(" + s + ")"
}

// made is any expression of a kind.
func (m *maker) made(k kind, deep int) string {
	if deep <= 0 || m.rarely(6) {
		return m.atom(k)
	}
	deep--
	switch n := m.Intn(8); {
	case n < 2:
		return "if " + m.part(truth, deep) + " then " + m.part(k, deep) + " else " + m.part(k, deep)
	case n == 2:
		return m.let(k, deep)
	case n == 3 && m.rarely(3):
		return "assert " + m.part(truth, deep) + " in " + m.part(k, deep)
	case n < 5:
		if s := m.call(k, deep); s != "" {
			return s
		}
	}
	switch k {
	case number:
		return m.number(deep)
	case truth:
		return m.truth(deep)
	}
	if m.rarely(3) {
		return "fill(4, " + m.part(number, deep) + ")"
	}
	a := m.part(array, deep)
	return m.guarded("0 <= $ and $ < 4", "set("+a+", $, "+m.part(number, deep)+")", a, deep)
}

func (m *maker) atom(k kind) string {
	if l := named(m.names, k); len(l) > 0 && m.Intn(5) > 0 {
		return m.one(l...)
	}
	switch k {
	case number:
		return m.one("0", "1", "2", "3", "-1")
	case truth:
		return m.one("true", "false")
	}
	return fmt.Sprintf("fill(4, %d)", m.Intn(9))
}

// guarded is what is done with a number, $, if it is as it must be; else something
// else. Now and then nobody asks.
func (m *maker) guarded(must, done, other string, deep int) string {
	if m.rarely(3) {
		return strings.ReplaceAll(done, "$", m.part(number, deep))
	}
	m.own++
	x := fmt.Sprint("x", m.own)
	s := "let " + x + " = " + m.part(number, deep) + " in "
	return s + strings.ReplaceAll("if "+must+" then "+done, "$", x) + " else " + other
}

func (m *maker) let(k kind, deep int) string {
	own := m.kind()
	is := m.part(own, deep)
	m.own++
	name := fmt.Sprint("x", m.own)
	m.names = append(m.names, base.Name{Name: name, Kind: own})
	s := "let " + name + " = " + is + " in " + m.part(k, deep)
	m.names = m.names[:len(m.names)-1]
	return s
}

// call is one of a function of a kind, if there is any.
func (m *maker) call(k kind, deep int) string {
	for _, i := range m.Perm(len(m.functions)) {
		f := m.functions[i]
		if f.result != k {
			continue
		}
		var args []string
		for _, k := range f.kinds {
			args = append(args, m.part(k, min(deep, 1)))
		}
		return f.name + "(" + strings.Join(args, ", ") + ")"
	}
	return ""
}

func (m *maker) number(deep int) string {
	switch n := m.Intn(11); {
	case n < 1:
		return m.guarded("0 <= $ and $ < 4", "get("+m.part(array, deep)+", $)", "0", deep)
	case n < 3:
		return m.guarded("$ != 0", m.part(number, deep)+m.one(" / ", " % ")+"$", "1", deep)
	case n < 4:
		return m.part(number, deep) + m.one(" / ", " % ") + m.one("2", "3", "-2")
	case n < 5:
		return m.part(number, deep) + " * " + m.part(number, deep)
	case n < 6:
		return "-" + m.part(number, deep)
	}
	return m.part(number, deep) + m.one(" + ", " - ") + m.part(number, deep)
}

func (m *maker) truth(deep int) string {
	switch n := m.Intn(9); {
	case n < 1:
		return "not " + m.part(truth, deep)
	case n < 3:
		return m.part(truth, deep) + m.one(" and ", " or ") + m.part(truth, deep)
	case n < 4:
		return m.part(truth, deep) + m.one(" = ", " != ") + m.part(truth, deep)
	}
	return m.part(number, deep) + m.one(" < ", " <= ", " > ", " >= ", " = ", " != ") + m.part(number, deep)
}

// function is one that is written from parts, any of which may be changed.
type function struct {
	name   string
	ahead  string // blanks and remarks
	pub    bool
	params []string // names
	kinds  []kind
	result kind
	types  []string // of the parameters; then the result's
	body   string
}

func (f *function) text() string {
	var l []string
	for i, p := range f.params {
		l = append(l, p+": "+f.types[i])
	}
	s := f.ahead
	if f.pub {
		s += "pub "
	}
	return s + "fn " + f.name + "(" + strings.Join(l, ", ") + ") -> " + f.types[len(l)] + " = " + f.body + ";"
}

// newFunction is one without a body, so that others may call it ahead.
func (m *maker) newFunction(name string) *function {
	f := &function{name: name, ahead: m.blanks(), pub: m.rarely(4), result: m.kind()}
	for i := range m.Intn(4) {
		f.params = append(f.params, fmt.Sprint("p", i))
		f.kinds = append(f.kinds, m.kind())
	}
	for i := range len(f.params) + 1 {
		f.types = append(f.types, "")
		m.retype(f, i, 3)
	}
	return f
}

// bound is the names of a function's first so many parameters.
func (f *function) bound(count int) []base.Name {
	var l []base.Name
	for i, p := range f.params[:count] {
		l = append(l, base.Name{Name: p, Kind: f.kinds[i]})
	}
	return l
}

// retype gives a place of a function a type anew, once in so many times with a
// predicate.
func (m *maker) retype(f *function, i, seldom int) {
	k := f.result
	if i < len(f.kinds) {
		k = f.kinds[i]
	}
	f.types[i] = bare(k)
	if m.rarely(seldom) {
		f.types[i] = m.typ(k, f.bound(i))
	}
}

func (m *maker) rebody(f *function) {
	m.names = f.bound(len(f.params))
	f.body = m.made(f.result, 1+m.Intn(4))
}

// rename gives a function's parameter another name.
func (m *maker) rename(f *function) {
	if len(f.params) == 0 {
		return
	}
	i := m.Intn(len(f.params))
	from, to := f.params[i], "q"+f.params[i][1:]
	if from[0] == 'q' {
		to = "p" + from[1:]
	}
	f.params[i] = to
	f.body = strings.ReplaceAll(f.body, from, to)
	for n := range f.types {
		f.types[n] = strings.ReplaceAll(f.types[n], from, to)
	}
}

func (m *maker) blanks() string {
	return m.one("\n", "\n", "\n", " ", "", "\n// ;\n", "\n\n", "\t// fn f(\r\n ")
}

// qualifier is any one of a name.
func (m *maker) qualifier(name string) string {
	s := m.one("(a) = a >= 0", "(a) = a > 0", "(a) = a != 0", "(a) = 0 <= a and a < 4", "(a) = a <= 4",
		"(a, b) = a <= b", "(b, a) = a <= b", "(a, b) = a >= b", "(a, b) = a = b", "(a, b) = a > 0", "(a, b, c) = a = b + c", "(a, b) = a < b or a > b + 2", "(a, b) = not (a - b = 1)")
	return m.blanks() + "qual " + name + s + ";"
}

// project is a text that is written on: its items, all of them right.
type project struct {
	*maker
	quals []string
	count int // of names that were given
	texts []string
}

func newProject(seed int64) *project {
	p := &project{maker: newMaker(seed)}
	for range p.Intn(4) {
		p.addQualifier()
	}
	for range 1 + p.Intn(7) {
		p.functions = append(p.functions, p.newFunction(p.name("f")))
	}
	for _, f := range p.functions {
		p.rebody(f)
	}
	p.Shuffle(len(p.functions), func(i, j int) { p.functions[i], p.functions[j] = p.functions[j], p.functions[i] })
	return p
}

func (p *project) name(kind string) string {
	p.count++
	return fmt.Sprint(kind, p.count)
}

func (p *project) addQualifier() {
	p.quals = slices.Insert(p.quals, p.Intn(len(p.quals)+1), p.qualifier(p.name("k")))
}

// items are the project's, qualifiers among the functions.
func (p *project) items() []string {
	var l []string
	for _, f := range p.functions {
		l = append(l, f.text())
	}
	for i, q := range p.quals {
		l = slices.Insert(l, min(len(l), 2*i), q)
	}
	return l
}

// any is one of the functions.
func (p *project) any() *function { return p.functions[p.Intn(len(p.functions))] }

// write changes something, so that all items stay right.
func (p *project) write() {
	switch p.Intn(14) {
	case 0, 1, 2:
		p.rebody(p.any())
	case 3:
		f := p.any()
		f.pub = !f.pub
	case 4, 5:
		f := p.any()
		p.retype(f, p.Intn(len(f.types)), 2)
	case 6:
		p.rename(p.any())
	case 7:
		p.any().ahead = p.blanks()
	case 8:
		p.Shuffle(len(p.functions), func(i, j int) { p.functions[i], p.functions[j] = p.functions[j], p.functions[i] })
	case 9:
		f := p.newFunction(p.name("f"))
		p.functions = append(p.functions, f)
		p.rebody(f)
	case 10, 11:
		p.remove(p.Intn(len(p.functions)))
	default:
		p.changeQualifiers()
	}
}

// remove takes a function away. Those that call it get another body.
func (p *project) remove(i int) {
	if len(p.functions) == 1 {
		return
	}
	name := p.functions[i].name
	p.functions = slices.Delete(p.functions, i, i+1)
	for _, f := range p.functions {
		if strings.Contains(f.body, name+"(") {
			p.rebody(f)
		}
	}
}

func (p *project) changeQualifiers() {
	if len(p.quals) == 0 || p.rarely(3) && len(p.quals) < 5 {
		p.addQualifier()
		return
	}
	i, j := p.Intn(len(p.quals)), p.Intn(len(p.quals))
	switch p.Intn(5) {
	case 0:
		p.quals = slices.Delete(p.quals, i, i+1)
	case 1:
		p.quals[i], p.quals[j] = p.quals[j], p.quals[i]
	case 2:
		p.quals[i] = p.qualifier(p.name("k"))
	default:
		p.quals[i] = p.blanks() + strings.TrimLeft(p.quals[i], " \t\r\n")
		if strings.Contains(p.quals[i], "//") {
			p.quals[i] = p.quals[i][strings.Index(p.quals[i], "qual"):]
		}
	}
}

// broken is the text with something wrong.
func (p *project) broken() string {
	l := p.items()
	i := p.Intn(len(l))
	switch p.Intn(9) {
	case 0:
		l = slices.Insert(l, i, p.one("fn", ";", "#;", "\nfn f(;", "qual q(a) = ", "fn f() -> int = 007;"))
	case 1:
		l[i] = l[i][:p.Intn(len(l[i]))]
	case 2:
		l = append(l, l[i])
	case 3:
		l = slices.Delete(l, i, i+1)
	case 4:
		l = append(l, "fn w() -> int = nobody();", "\nfn x() -> int = true;")
	case 5:
		l = append(l, slices.Repeat([]string{p.one(";", "\nfn f() -> int = 1;")}, 220)...)
	case 6:
		l = append(l, p.many()...)
	case 7:
		l = nil
	default:
		l = append(l, " // the end")
	}
	return strings.Join(l, "")
}

// many are about as many items as there may be.
func (p *project) many() []string {
	var l []string
	for i := range 190 + p.Intn(20) {
		l = append(l, fmt.Sprintf("\nfn n%d() -> int = %d;", i, i%7))
	}
	return l
}

// next is the next text.
func (p *project) next() string {
	s := ""
	switch n := p.Intn(20); {
	case n == 0 && len(p.texts) > 0:
		s = p.texts[p.Intn(len(p.texts))]
	case n == 1 && len(p.texts) > 0:
		s = p.texts[len(p.texts)-1]
	case n < 5:
		s = p.broken()
	default:
		for range 1 + p.Intn(2) {
			p.write()
		}
		s = strings.Join(p.items(), "")
	}
	p.texts = append(p.texts, s)
	return s
}
