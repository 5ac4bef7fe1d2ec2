package engine_test

import (
	"fmt"
	"strings"
	"testing"

	"whetstone/engine"
)

// great is a text with one question, of so many truths of numbers.
func great(name string, count int) string {
	var l []string
	for i := range count {
		l = append(l, fmt.Sprintf("x > %d and y < %d", i, i))
	}
	return "pub fn " + name + "(x: int, y: int) -> int = assert " + strings.Join(l, " or ") + " or x <= y in x;"
}

// TestSizesOfAGreatQuestion: of what a text's greatest question makes nothing outlives
// that text, whether the next one asks something or nothing.
func TestSizesOfAGreatQuestion(t *testing.T) {
	for _, next := range []string{"", "fn f(", "fn f() -> int = g();", "pub fn f() -> int = 1;", "pub fn f(x: int) -> int = 1 / x;", great("h", 10), strings.Repeat(";", 300)} {
		e := engine.New()
		r := e.Update([]byte(great("g", 3000)))
		if len(r.Diags) != 1 {
			t.Fatal(r)
		}
		bounded(t, e)
		for range 2 {
			e.Update([]byte(next))
			bounded(t, e)
		}
		judges(t, e, &judge{last: map[string]int{next: 1}}, "fn  f(x: int) -> int = 1 / x;")
	}
}

// TestSizesKept: a solver is kept from text to text, and what is kept stays bounded,
// however many there are.
func TestSizesKept(t *testing.T) {
	e := engine.New()
	if vars, clauses, learned := e.Sizes(); vars+clauses+learned != 0 {
		t.Error("one that knows nothing keeps something:", vars, clauses, learned)
	}
	kept, forgotten, before := 0, 0, 0
	for i := range 600 {
		s := fmt.Sprintf("qual p(a) = a > %d; fn f(x: int) -> int = if x > %d then x + %d else f(x + %d); pub fn g(y: int{v > %d}) -> int = 1 / f(y);", i, 2*i, i, i+1, i)
		s += great("h", 3+i%40)
		e.Update([]byte(s))
		bounded(t, e)
		vars, _, _ := e.Sizes()
		if vars > 0 {
			kept++
		}
		if vars < before {
			forgotten++
		}
		before = vars
	}
	if kept < 590 || forgotten < 3 || forgotten > 100 {
		t.Error("kept and forgotten:", kept, forgotten)
	}
}
