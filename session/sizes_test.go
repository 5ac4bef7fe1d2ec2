package session_test

import (
	"fmt"
	"strings"
	"testing"

	"whetstone/api"
	"whetstone/engine"
	"whetstone/session"
)

// did: what the document that was published last made.
func did(t *testing.T, s *session.Server, want string) {
	t.Helper()
	if got := fmt.Sprint(s.Stats().Parsed, s.Stats().Made, len(s.Stats().Queries) > 0); got != want {
		t.Errorf("%s, not %s", got, want)
	}
}

// TestStats: of the last document that was published, whatever came behind it.
func TestStats(t *testing.T) {
	s := awake(t)
	did(t, s, "0 [] false")
	feed := func(body, want string) {
		t.Helper()
		s.Feed([]byte(framed(body)))
		did(t, s, want)
	}
	two := zero + " fn g() -> int = 1;"
	feed(didOpen("a", 1, two), "2 [f g] true")
	feed(hover("1", "a", 0, 3), "2 [f g] true")
	feed(didChange("a", 2, ranged(0, 39, 0, 40, "2")), "1 [g] false")
	feed(didOpen("b", 1, fine), "1 [f] false")
	feed(didChange("a", 3, ranged(0, 16, 0, 17, "3")), "1 [f] true")
	// What is none changes nothing.
	for _, body := range []string{"nonsense", didChange("a", 4, whole("x"), "{}"), didChange("c", 1, whole(fine)), didClose("c"), didOpen("c", 1, strings.Repeat(" ", api.MaxText+1)), notice("textDocument/didOpen", "{}")} {
		feed(body, "1 [f] true")
	}
	// One that comes twice is neither read nor made, nor is one that is opened again.
	feed(didChange("a", 4), "0 [] false")
	feed(didChange("b", 2, whole(two)), "2 [f g] true")
	feed(didOpen("b", 3, two), "0 [] false")
	feed(didOpen("b", 4, fine), "1 [f] false")
	feed(didChange("b", 5, whole(two)), "2 [f g] true")
	// A document that is closed is forgotten, but for what publishing it did.
	feed(didClose("b"), "2 [f g] true")
	feed(didClose("a"), "2 [f g] true")
	feed(didOpen("a", 5, zero), "1 [f] true")
	feed(didOpen("b", 1, two), "2 [f g] true")
	feed(didChange("b", 2, whole("fn f(")), "1 [] false")
	feed(request("1", "shutdown", ""), "1 [] false")
	feed(notice("exit", ""), "1 [] false")
}

// sizesAre: what these engines keep, in all.
func sizesAre(t *testing.T, s *session.Server, l ...*engine.Engine) {
	t.Helper()
	var vars, clauses, learned int
	for _, e := range l {
		v, c, n := e.Sizes()
		vars, clauses, learned = vars+v, clauses+c, learned+n
	}
	if v, c, n := s.Sizes(); v != vars || c != clauses || n != learned {
		t.Errorf("%d, %d, %d, not %d, %d, %d", v, c, n, vars, clauses, learned)
	}
}

// great is a text that asks something, of so many truths of numbers.
func great(count int) string {
	s := "pub fn g(x: int, y: int) -> int = assert x <= y"
	for i := range count {
		s += fmt.Sprintf(" or x > %d and y < %d", i, i)
	}
	return s + " in x;"
}

// TestSizes: those of all documents that are open, of no other one.
func TestSizes(t *testing.T) {
	s := awake(t)
	sizesAre(t, s)
	var l []*engine.Engine
	for i := range 5 {
		e := engine.New()
		e.Update([]byte(great(3 * i)))
		l = append(l, e)
		s.Feed([]byte(framed(didOpen(fmt.Sprint(i), 1, great(3*i)))))
		sizesAre(t, s, l...)
	}
	l[2].Update([]byte(great(20)))
	s.Feed([]byte(framed(didChange("2", 1, whole(great(20))))))
	sizesAre(t, s, l...)
	l[4].Update([]byte(great(9)))
	s.Feed([]byte(framed(didOpen("4", 1, great(9)))))
	sizesAre(t, s, l...)
	if vars, clauses, _ := s.Sizes(); vars == 0 || clauses == 0 {
		t.Error("nothing is kept:", vars, clauses)
	}
	s.Feed([]byte(framed(didClose("1"))))
	sizesAre(t, s, l[0], l[2], l[3], l[4])
	s.Feed([]byte(framed(didClose("4"))))
	sizesAre(t, s, l[0], l[2], l[3])
	for _, name := range s.Open() {
		s.Feed([]byte(framed(didClose(name))))
	}
	sizesAre(t, s)
	s.Feed([]byte(framed(didOpen("2", 1, great(20)))))
	e := engine.New()
	e.Update([]byte(great(20)))
	sizesAre(t, s, e)
	s.Feed([]byte(framed(didClose("2"))))
	sizesAre(t, s)
}

// TestStatsAreNew: whoever writes over an answer changes nothing that is known.
func TestStatsAreNew(t *testing.T) {
	s := awake(t, zero)
	for range 3 {
		got := s.Stats()
		if fmt.Sprint(got) != "{1 [f] [{f 0}]}" {
			t.Error(got)
		}
		for i := range got.Made {
			got.Made[i] = "spoilt"
		}
		for i := range got.Queries {
			got.Queries[i].Fn = "spoilt"
		}
		_ = append(got.Made, "spoilt")
		_ = append(got.Queries, got.Queries...)
	}
}
