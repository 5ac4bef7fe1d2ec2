package syntax_test

import (
	"math/rand"
	"slices"
	"strconv"
	"strings"

	"whetstone/api"
	"whetstone/syntax"
)

// maker writes tokens by the chapter's words, of a fixed source, and says what
// they mean. Spans count tokens, till the tokens are laid out as a text.
type maker struct {
	*rand.Rand
	tokens []string
	most   int // of parameters and arguments
}

func newMaker(seed int64) *maker {
	return &maker{Rand: rand.New(rand.NewSource(seed)), most: api.MaxParams}
}

func (m *maker) one(of ...string) string { return of[m.Intn(len(of))] }
func (m *maker) add(l ...string)         { m.tokens = append(m.tokens, l...) }

// full: is it deep enough, or are there tokens enough?
func (m *maker) full(deep bool) bool {
	return deep || len(m.tokens) > 60
}

func (m *maker) since(from int) api.Span {
	return api.Span{From: from, To: len(m.tokens)}
}

func (m *maker) name() (string, api.Span) {
	s := m.one("a", "b", "f", "g1", "x_", "vv", "fnx", "in2", "i", strings.Repeat("n", api.MaxName))
	m.add(s)
	return s, m.since(len(m.tokens) - 1)
}

func (m *maker) length() int {
	n := []int{0, 1, 7, 10, 999999, 1000000}[m.Intn(6)]
	m.add(strconv.Itoa(n))
	return n
}

// expr has at most so many expressions and parts in one another.
func (m *maker) expr(deep int) expr {
	from := len(m.tokens)
	if m.full(deep < 4) || m.Intn(4) > 0 {
		return m.row(0, deep-1)
	}
	var e expr
	switch m.Intn(3) {
	case 0:
		m.add("let")
		e.Kind = syntax.Let
		e.Name, _ = m.name()
		e.Args = m.exprs(deep-1, "=", "in")
	case 1:
		e = of(syntax.If, m.exprs(deep-1, "if", "then", "else")...)
	case 2:
		e = of(syntax.Assert, m.exprs(deep-1, "assert", "in")...)
	}
	e.Span = m.since(from)
	return e
}

func (m *maker) exprs(deep int, behind ...string) []expr {
	var l []expr
	for _, s := range behind {
		m.add(s)
		l = append(l, m.expr(deep))
	}
	return l
}

// rowSigns: the signs that bind alike, the loosest first, and the kinds of the
// first of each.
func rowSigns() [][]string {
	return [][]string{{"or"}, {"and"}, {"=", "!=", "<", "<=", ">", ">="}, {"+", "-"}, {"*", "/", "%"}}
}

func firstKinds() []int {
	return []int{syntax.Or, syntax.And, syntax.Eq, syntax.Add, syntax.Mul}
}

func (m *maker) row(level, deep int) expr {
	signs := rowSigns()
	if level == len(signs) {
		return m.part(deep)
	}
	from := len(m.tokens)
	e := m.row(level+1, deep)
	for m.Intn(6) == 0 && !m.full(false) {
		i := m.Intn(len(signs[level]))
		m.add(signs[level][i])
		e = of(firstKinds()[level]+i, e, m.row(level+1, deep))
		e.Span = m.since(from)
		if level == 2 {
			break
		}
	}
	return e
}

func (m *maker) part(deep int) expr {
	from := len(m.tokens)
	kind := m.Intn(16)
	if m.full(deep < 3) {
		kind = m.Intn(5)
	}
	var e expr
	switch kind {
	case 0, 1, 2, 3, 4:
		e = m.smallAtom(kind)
	case 5, 6:
		m.add("-")
		e = of(syntax.Neg, m.part(deep-1))
	case 7, 8:
		m.add("not")
		e = of(syntax.Not, m.part(deep-1))
	case 9, 10, 11:
		m.add("(")
		e = m.expr(deep - 1)
		m.add(")")
		return e
	default:
		e = m.greatAtom(kind, deep-1)
	}
	e.Span = m.since(from)
	return e
}

func (m *maker) smallAtom(kind int) expr {
	switch kind {
	case 0:
		s := m.one("0", "1", "9", "10", "42", strings.Repeat("9", api.MaxDigits))
		m.add(s)
		return number(s)
	case 1:
		m.add("true")
		return of(syntax.True)
	case 2:
		m.add("false")
		return of(syntax.False)
	case 3:
		m.add("v")
		return name("v")
	}
	s, _ := m.name()
	return name(s)
}

func (m *maker) greatAtom(kind, deep int) expr {
	var e expr
	switch kind {
	case 12:
		m.add("get")
		e = of(syntax.Get, m.exprs(deep, "(", ",")...)
	case 13:
		m.add("set")
		e = of(syntax.Set, m.exprs(deep, "(", ",", ",")...)
	case 14:
		m.add(m.one("len", "fill"), "(")
		if m.tokens[len(m.tokens)-2] == "len" {
			e = of(syntax.Len, m.expr(deep))
			break
		}
		count := strconv.Itoa(m.length())
		e = fill(count, m.exprs(deep, ",")...)
	default:
		s, _ := m.name()
		count := m.Intn(m.most + 1)
		e = call(s, m.exprs(deep, append([]string{"("}, slices.Repeat([]string{","}, m.most)...)[:count]...)...)
		if count == 0 {
			m.add("(")
		}
	}
	m.add(")")
	return e
}

func (m *maker) typ(deep int) syntax.Type {
	from := len(m.tokens)
	t := syntax.Type{Base: 1 + m.Intn(3)}
	switch t.Base {
	case api.Int:
		m.add("int")
	case api.Bool:
		m.add("bool")
	case api.Arr:
		m.add("arr")
		t.Len = m.length()
	}
	if m.Intn(3) == 0 {
		t.Pred = m.exprs(deep, "{")
		m.add("}")
	}
	t.Span = m.since(from)
	return t
}

// item writes an item's tokens, and forgets those of the one ahead.
func (m *maker) item(deep int) item {
	m.tokens = nil
	it := item{Kind: syntax.Fn, Pub: m.Intn(2) == 0}
	if m.Intn(3) == 0 {
		it = item{Kind: syntax.Qual}
		m.qualHead(&it)
	} else {
		m.fnHead(&it, deep)
	}
	m.add("=")
	it.Body = m.expr(deep)
	m.add(";")
	return it
}

func (m *maker) qualHead(it *item) {
	it.Result = typ(api.Bool)
	m.add("qual")
	it.Name, it.At = m.name()
	m.add("(")
	for i := range 1 + m.Intn(2*m.most) {
		if i > 0 {
			m.add(",")
		}
		s, span := m.name()
		it.Params = append(it.Params, syntax.Param{Name: s, Span: span, Type: syntax.Type{Base: api.Int, Span: span}})
	}
	m.add(")")
}

func (m *maker) fnHead(it *item, deep int) {
	if it.Pub {
		m.add("pub")
	}
	m.add("fn")
	it.Name, it.At = m.name()
	m.add("(")
	for i := range m.Intn(m.most + 1) {
		if i > 0 {
			m.add(",")
		}
		s, span := m.name()
		m.add(":")
		it.Params = append(it.Params, syntax.Param{Name: s, Span: span, Type: m.typ(deep)})
	}
	m.add(")", "->")
	it.Result = m.typ(deep)
}

// gap is what stands between two tokens, so that they stay two.
func (m *maker) gap(a, b string) string {
	gap := m.one("", "", "", " ", "\t", "\r\n", " // ; x\n", "//\n", "// let # \xff\n\n")
	joined := strings.Contains("-><=>=!=//", a[len(a)-1:]+(gap + b)[:1])
	if gap == "" && inName(a[len(a)-1]) && inName(b[0]) || joined {
		return " " + gap
	}
	return gap
}

func inName(c byte) bool {
	return 'a' <= c && c <= 'z' || '0' <= c && c <= '9' || c == '_'
}

// laid is a text of tokens, with anything between them, and their bytes.
func (m *maker) laid(tokens []string) (string, []api.Span) {
	s := m.one("", "", " ", "// ahead\n", "\r\n")
	var at []api.Span
	for i, token := range tokens {
		if i > 0 {
			s += m.gap(tokens[i-1], token)
		}
		at = append(at, api.Span{From: len(s), To: len(s) + len(token)})
		s += token
	}
	return s + m.one("", "", " ", "\n", " // behind"), at
}

// placed is an item whose Spans, that counted tokens, count bytes.
func placed(it item, at []api.Span) item {
	it = tidyItem(it)
	spans(&it, func(s *api.Span) {
		if s.To > s.From {
			*s = api.Span{From: at[s.From].From, To: at[s.To-1].To}
		}
	})
	return it
}

// made is an item, its text, and the tokens of that.
func (m *maker) made(deep int) (item, string, []api.Span) {
	it := m.item(deep)
	s, at := m.laid(m.tokens)
	return placed(it, at), s, at
}
