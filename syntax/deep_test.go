package syntax_test

import (
	"slices"
	"strings"
	"testing"

	"whetstone/api"
)

// nest is a text within expressions and parts: how many are begun and not
// ended there, and what must stand behind it.
type nest struct {
	text   string
	begun  int
	inPart bool // a part must stand there, not an expression
	behind string
}

// step is a way to go one deeper: an expression or a part that is begun.
type step struct {
	ahead, behind string
	inPart        bool // a part must stand within it, not an expression
	beside        bool // others stand in it that need some depth as well
}

func exprSteps() []step {
	return []step{
		{"let a = ", " in 1", false, true}, {"let a = 1 in ", "", false, true}, {"if ", " then 1 else 2", false, true}, {"if a then ", " else 2", false, true}, {"if a then b else ", "", false, true}, {"assert ", " in 1", false, true}, {"assert a in ", "", false, true},
		{"", "", true, false}, {"1 + ", "", true, true}, {"", " * 2 < 3", true, true}, {"a or not b and 2 * ", " + 1 = 0", true, true},
	}
}

func partSteps() []step {
	return []step{
		{"-", "", true, false}, {"not ", "", true, false}, {"(", ")", false, false}, {"f(", ")", false, false}, {"len(", ")", false, false}, {"fill(3, ", ")", false, false},
		{"f(1, ", ", 2)", false, true}, {"get(", ", 1)", false, true}, {"get(a, ", ")", false, true}, {"set(a, ", ", b)", false, true}, {"set(a, b, ", ")", false, true},
	}
}

func (n nest) deeper(s step) nest {
	return nest{n.text + s.ahead, n.begun + 1, s.inPart, s.behind + n.behind}
}

// steps that a nest can go on by, with room for what stands beside the way.
func (n nest) steps() []step {
	all := exprSteps()
	if n.inPart {
		all = partSteps()
	}
	return slices.DeleteFunc(all, func(s step) bool { return s.beside && n.begun+4 >= api.MaxDepth })
}

// toDepth: a nest in which so many are begun, by steps of a source.
func (m *maker) toDepth(start nest, begun int) nest {
	for start.begun < begun {
		l := start.steps()
		start = start.deeper(l[m.Intn(len(l))])
	}
	return start
}

func starts() []nest {
	return []nest{
		{text: ahead, behind: ";"}, {text: "qual q(a) = ", behind: ";"}, {text: "fn f(x: int{", behind: "}) -> int = 1;"}, {text: "fn f(x: int{v}) -> arr 3 {", behind: "} = 1;"},
	}
}

// TestDepth: as deep as may be, and one more, on any way.
func TestDepth(t *testing.T) {
	m := newMaker(5)
	for i := range 600 {
		n := m.toDepth(starts()[i%4], api.MaxDepth)
		for _, there := range []string{"1", "a", "-", "not", "(", "f", "true", "v", "get", "fill"} {
			wrong(t, n.text, there, " 1"+n.behind, api.ErrDeep)
			wrong(t, n.text, there, "", api.ErrDeep)
		}
		for _, there := range []string{"let", "if", "assert"} {
			if !n.inPart {
				wrong(t, n.text, there, n.behind, api.ErrDeep)
			}
		}
		// An atom is a part, and where an expression must stand one of its own.
		for _, room := range []int{1, 2, 3, 10} {
			n := m.toDepth(starts()[i%4], api.MaxDepth-room)
			s := n.text + m.one("1", "a", "f()", "true") + n.behind
			if room == 1 && !n.inPart {
				if _, _, e := parse(s); e != api.ErrDeep {
					t.Fatalf("Parse(%q): %d", s, e)
				}
				continue
			}
			parsed(t, s)
		}
	}
}

// TestDeepIsTheLastToBeTold: what isn't there isn't too deep, and what is
// wrong in itself is told as that.
func TestDeepIsTheLastToBeTold(t *testing.T) {
	m := newMaker(6)
	for i := range 300 {
		n := m.toDepth(starts()[i%4], api.MaxDepth)
		ends(t, n.text)
		for _, there := range []string{"}", ";", "+", "in", "int", "{", ",", "fn"} {
			wrong(t, n.text+" ", there, n.behind, api.ErrExpect)
		}
		wrong(t, n.text, "007", n.behind, api.ErrForm)
	}
}

// TestDepthByHand: how much each of them counts.
func TestDepthByHand(t *testing.T) {
	for _, c := range []struct {
		ahead, behind string
		most          int // of them in one another, with a number within
	}{
		{"(", ")", 29}, {"-", "", 58}, {"not ", "", 58}, {"--", "", 29}, {"f(", ")", 29}, {"len(", ")", 29}, {"fill(3, ", ")", 29}, {"get(a, ", ")", 29}, {"let a = 1 in ", "", 58}, {"let a = ", " in 1", 58}, {"if a then b else ", "", 58}, {"assert a in ", "", 58}, {"-(", ")", 19}, {"1 + (", ")", 29}, {"(1 + ", ")", 29}, {"(let a = 1 in ", ")", 19},
	} {
		nested := func(n int) string { return strings.Repeat(c.ahead, n) + "1" + strings.Repeat(c.behind, n) }
		body(t, nested(c.most))
		if _, _, e := parse(ahead + nested(c.most+1) + ";"); e != api.ErrDeep {
			t.Errorf("%d of %q in one another: %d", c.most+1, c.ahead, e)
		}
	}
	wrong(t, ahead+strings.Repeat("(", 30), "1", strings.Repeat(")", 30)+";", api.ErrDeep)
	wrong(t, ahead+strings.Repeat("-", 59), "1", ";", api.ErrDeep)
	wrong(t, ahead+strings.Repeat("(", 30), "(", strings.Repeat("(", 1<<16), api.ErrDeep)
	wrong(t, ahead+strings.Repeat("let a = 1 in ", 58)+"let a = ", "1", " in 1;", api.ErrDeep)
	wrong(t, ahead+strings.Repeat("let a = ", 60), "let", " a = 1 in 1;", api.ErrDeep)
	wrong(t, "fn f(x: int{"+strings.Repeat("-", 59), "v", "}) -> int = 1;", api.ErrDeep)
}

// TestBesideIsNotDeep: only what is within another one counts.
func TestBesideIsNotDeep(t *testing.T) {
	deep := strings.Repeat("(", 29) + "1" + strings.Repeat(")", 29)
	body(t, deep+strings.Repeat(" + "+deep, 50))
	body(t, deep+" < "+deep+" and not "+deep[1:len(deep)-1]+strings.Repeat(" or "+deep, 9))
	less := deep[1 : len(deep)-1]
	body(t, "f("+less+", "+less+", "+less+") + "+deep)
	parsed(t, "fn f(x: int{"+deep+"}, y: int{"+deep+"}) -> int{"+deep+"} = "+deep+";")
	body(t, "1"+strings.Repeat(" + 1", 5000))
	body(t, "let a = "+less+" in "+less)
	wrong(t, ahead+deep+" + "+strings.Repeat("(", 30), "1", ";", api.ErrDeep)
}
