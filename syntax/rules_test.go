package syntax_test

import (
	"strings"
	"testing"

	"whetstone/api"
	"whetstone/syntax"
)

const spare = 3

// mark stands in the room behind lists.
func mark() expr { return name("mark") }

// roomy is the same tree with room behind each of its lists.
func roomy(e expr) expr {
	e = tidy(e)
	args := make([]expr, 0, len(e.Args)+spare)
	for _, part := range e.Args {
		args = append(args, roomy(part))
	}
	for i := range spare {
		args[:cap(args)][len(args)+i] = mark()
	}
	e.Args = args
	e.Num.Mag = append(e.Num.Mag, 77, 77)[:len(e.Num.Mag)]
	return e
}

// unfold is a tree with the room of its lists made part of them.
func unfold(e expr) expr {
	e.Num.Mag = append([]uint32(nil), e.Num.Mag[:cap(e.Num.Mag)]...)
	args := e.Args[:cap(e.Args)]
	e.Args = nil
	for _, part := range args {
		e.Args = append(e.Args, unfold(part))
	}
	return e
}

// scribble overwrites all lists of a tree, and their room.
func scribble(e expr) {
	for _, part := range e.Args {
		scribble(part)
	}
	limbs := e.Num.Mag[:cap(e.Num.Mag)]
	for i := range limbs {
		limbs[i] = ^limbs[i]
	}
	all := e.Args[:cap(e.Args)]
	for i := range all {
		all[i] = name("scribble")
	}
}

func scribbleItem(it item) {
	scribble(it.Body)
	for _, pred := range it.Result.Pred {
		scribble(pred)
	}
	clear(it.Result.Pred)
	for _, p := range it.Params {
		for _, pred := range p.Type.Pred {
			scribble(pred)
		}
		clear(p.Type.Pred)
	}
	clear(it.Params[:cap(it.Params)])
}

func TestArgumentsStayAsTheyAre(t *testing.T) {
	m := newMaker(15)
	for range 1000 {
		it, s, _ := m.made(8)
		e := roomy(it.Body)
		want := unfold(e)
		it.Body = e
		it.Result.Pred = append(it.Result.Pred, mark())[:len(it.Result.Pred)]
		syntax.Show(e)
		syntax.Print(it)
		syntax.ShowType(it.Result)
		syntax.Bare(e)
		syntax.Equal(e, e)
		if !same(unfold(e), want) {
			t.Fatalf("a call changes the tree of %q", s)
		}
	}
}

// TestParseLeavesItsText: the room behind it isn't read, and nothing is kept.
func TestParseLeavesItsText(t *testing.T) {
	const room = "+ 1; #"
	m := newMaker(16)
	for range 1000 {
		want, s, _ := m.made(8)
		b := []byte(s + room)
		got, _, e := syntax.Parse(b[:len(s)])
		if e != api.OK || string(b) != s+room {
			t.Fatalf("Parse(%q): %d, and the text is %q", s, e, b)
		}
		clear(b)
		if !sameItem(got, want) {
			t.Fatalf("Parse(%q) keeps the text's memory", s)
		}
	}
}

func TestAnswersAreNewMemory(t *testing.T) {
	m := newMaker(17)
	for range 1000 {
		want, s, _ := m.made(8)
		first, second := parsed(t, s), parsed(t, s)
		scribbleItem(first)
		if !sameItem(second, want) {
			t.Fatalf("two answers of Parse(%q) share their memory", s)
		}
		bare := syntax.Bare(second.Body)
		scribble(bare)
		if !sameItem(second, want) {
			t.Fatalf("Bare shares lists with the tree of %q", s)
		}
		bare = syntax.Bare(second.Body)
		scribble(second.Body)
		if !same(bare, bareExpr(want.Body)) {
			t.Fatalf("Bare keeps lists of the tree of %q", s)
		}
	}
}

// TestListsOfAnAnswerShareNothing: each list of an item may be added to.
func TestListsOfAnAnswerShareNothing(t *testing.T) {
	var addTo func(e expr)
	addTo = func(e expr) {
		_ = append(e.Args, mark())
		for _, part := range e.Args {
			addTo(part)
		}
	}
	m := newMaker(18)
	for range 1000 {
		want, s, _ := m.made(8)
		got := parsed(t, s)
		addTo(got.Body)
		_ = append(got.Params, syntax.Param{Name: "added"})
		for _, p := range got.Params {
			_ = append(p.Type.Pred, mark())
		}
		_ = append(got.Result.Pred, mark())
		if !sameItem(got, want) {
			t.Fatalf("lists of Parse(%q) share their memory", s)
		}
	}
}

// TestNothingIsKept: an item that goes wrong leaves nothing to the next one.
func TestNothingIsKept(t *testing.T) {
	deep := strings.Repeat("(", 29) + "1" + strings.Repeat(")", 29)
	for range 3 {
		wrong(t, ahead+"("+strings.Repeat("(", 29), "1", "", api.ErrDeep)
		body(t, deep)
		wrong(t, ahead+deep+" + ", "00", "", api.ErrForm)
		body(t, deep+" + "+deep)
	}
}

func TestNilAndEmptyAreOne(t *testing.T) {
	for _, b := range [][]byte{nil, {}} {
		if it, at, e := syntax.Parse(b); !isNothing(it) || at != (api.Span{}) || e != api.ErrEnds {
			t.Error("Parse of nothing", it, at, e)
		}
	}
	empty := expr{Kind: syntax.Call, Name: "f", Args: []expr{}}
	if syntax.Show(empty) != "f()" || !syntax.Equal(empty, call("f")) || !same(syntax.Bare(empty), call("f")) {
		t.Error("an empty list of arguments")
	}
	it := item{Kind: syntax.Fn, Name: "f", Params: []syntax.Param{}, Result: syntax.Type{Base: api.Int, Pred: []expr{}}, Body: empty}
	if got := syntax.Print(it); got != "fn f() -> int = f();" {
		t.Error("empty lists of an item", got)
	}
}

// TestParseEndsAtAllBytes is P9.3, with what holds of every answer.
func TestParseEndsAtAllBytes(t *testing.T) {
	m := newMaker(19)
	for range 30000 {
		var s string
		for range m.Intn(12) {
			s += m.one("fn f() -> int = ", "fn ", "pub ", "qual q(", "(", ")", "a", "1", "0", " ", ",", ":", "int", "{", "}", "=", ";", "-", ">", "<", "!", "let ", "in ", "if ", "//", "\n", "not ", "\xff", "#", "get", "1 + ", "f(")
		}
		it, at, e := parse(s)
		switch {
		case e == api.OK && (at != api.Span{} || isNothing(it)):
			t.Fatalf("Parse(%q) = %v, %v", s, it, at)
		case e != api.OK && !isNothing(it):
			t.Fatalf("Parse(%q) = %v, %d", s, it, e)
		case e == api.ErrEnds && at != api.Span{From: len(s), To: len(s)}:
			t.Fatalf("Parse(%q): %v, %d", s, at, e)
		case e != api.OK && e != api.ErrEnds && (at.From < 0 || at.From >= at.To || at.To > len(s)):
			t.Fatalf("Parse(%q): %v, %d", s, at, e)
		}
	}
	for _, part := range []string{"(", "-", "not ", "f(", "let a = ", "if ", "a + ", "1<", "fn ", "{", ";", "/", "//", "\x00", "arr ", "a,"} {
		many := strings.Repeat(part, 1<<16)
		parse(many)
		if _, _, e := parse(ahead + many); e == api.OK {
			t.Errorf("an item of %q, many times", part)
		}
	}
}
