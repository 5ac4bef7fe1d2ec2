package syntax_test

import (
	"testing"

	"whetstone/api"
	"whetstone/big"
	"whetstone/syntax"
)

func TestBare(t *testing.T) {
	m := newMaker(13)
	for range 2000 {
		it, s, _ := m.made(10)
		if got := syntax.Bare(it.Body); !same(got, bareExpr(it.Body)) {
			t.Fatalf("Bare of %q: %v", s, got)
		}
	}
	for _, e := range allKinds() {
		if got := syntax.Bare(at(3, 9, e)); !same(got, e) {
			t.Errorf("Bare(%v) = %v", e, got)
		}
	}
}

// TestEqual: of trees that differ in Spans alone, and of trees that differ in
// one place.
func TestEqual(t *testing.T) {
	m := newMaker(14)
	for range 2000 {
		it, s, _ := m.made(10)
		e := it.Body
		other, _ := m.laid(m.tokens)
		if again := parsed(t, other).Body; !syntax.Equal(e, again) || !syntax.Equal(e, e) || !syntax.Equal(syntax.Bare(e), e) {
			t.Fatalf("%q and %q aren't equal", s, other)
		}
		changed := tidy(e)
		at := m.somewhere(&changed)
		switch m.Intn(4) {
		case 0:
			at.Kind++
		case 1:
			at.Name += "x"
		case 2:
			at.Num = big.Add(at.Num, big.Of(1))
		case 3:
			at.Args = append(at.Args, number("0"))
		}
		if syntax.Equal(e, changed) || syntax.Equal(changed, e) {
			t.Fatalf("%v and %v are equal", e, changed)
		}
	}
}

// somewhere is a part of a tree, at any depth.
func (m *maker) somewhere(e *expr) *expr {
	for len(e.Args) > 0 && m.Intn(4) > 0 {
		e = &e.Args[m.Intn(len(e.Args))]
	}
	return e
}

func TestEqualByHand(t *testing.T) {
	l := allKinds()
	for i, a := range l {
		for j, b := range l {
			if got := syntax.Equal(at(i, j, a), at(j, i+7, b)); got != (i == j) {
				t.Errorf("Equal(%v, %v) = %v", a, b, got)
			}
		}
	}
	a, b := name("a"), name("b")
	for _, c := range [][2]expr{
		{of(syntax.Add, a, b), of(syntax.Add, b, a)}, {call("f", a), call("f", a, b)}, {call("f", a), call("f")}, {call("f"), call("g")}, {call("f"), name("f")}, {let("x", a, b), let("y", a, b)}, {fill("1", a), fill("2", a)}, {fill("1", a), fill("1", b)}, {number("1"), number("2")},
		{of(syntax.Add, of(syntax.Add, a, b), a), of(syntax.Add, a, of(syntax.Add, b, a))}, {of(syntax.Neg, number("1")), {Kind: syntax.Num, Num: big.Of(-1)}}, {{Kind: syntax.Num, Num: big.Of(1)}, {Kind: syntax.Num, Num: big.Of(-1)}}, {of(syntax.Get, a, b), of(syntax.Get, a, of(syntax.Len, b))}, {{}, number("0")},
	} {
		if syntax.Equal(c[0], c[1]) || syntax.Equal(c[1], c[0]) {
			t.Errorf("%v and %v are equal", c[0], c[1])
		}
	}
	// Numbers are held against each other as such, and lists whether nil or not.
	one := expr{Kind: syntax.Num, Num: big.Int{Mag: []uint32{1, 0, 0}}}
	nought := expr{Kind: syntax.Num, Num: big.Int{Neg: true, Mag: []uint32{0}}, Args: []expr{}}
	if !syntax.Equal(one, number("1")) || !syntax.Equal(nought, number("0")) || !syntax.Equal(expr{}, expr{Span: api.Span{To: 3}}) {
		t.Error("the same, otherwise written, isn't equal")
	}
}
