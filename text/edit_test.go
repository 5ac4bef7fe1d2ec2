package text_test

import (
	"math"
	"math/rand"
	"strings"
	"testing"

	"whetstone/api"
	"whetstone/text"
)

// TestMovedByHand: the edges of a span of two bytes and of one without a byte.
func TestMovedByHand(t *testing.T) {
	span, none := api.Span{From: 4, To: 6}, api.Span{From: 4, To: 4}
	for _, c := range []struct {
		s    api.Span
		l    []text.Edit
		want api.Span
		ok   bool
	}{
		{span, nil, span, true}, {span, []text.Edit{}, span, true}, {none, nil, none, true},
		// Ahead of it.
		{span, []text.Edit{{0, 0, 3}}, api.Span{From: 7, To: 9}, true},
		{span, []text.Edit{{4, 4, 1}}, api.Span{From: 5, To: 7}, true},
		{span, []text.Edit{{2, 4, 0}}, api.Span{From: 2, To: 4}, true},
		{span, []text.Edit{{1, 4, 5}}, api.Span{From: 6, To: 8}, true},
		{span, []text.Edit{{0, 4, 4}}, span, true},
		{span, []text.Edit{{3, 3, 0}}, span, true},
		// Behind it.
		{span, []text.Edit{{6, 6, 3}}, span, true},
		{span, []text.Edit{{6, 9, 0}}, span, true},
		{span, []text.Edit{{8, 9, 5}}, span, true},
		// Touching it.
		{span, []text.Edit{{5, 5, 1}}, api.Span{}, false},
		{span, []text.Edit{{5, 5, 0}}, api.Span{}, false},
		{span, []text.Edit{{3, 5, 2}}, api.Span{}, false},
		{span, []text.Edit{{4, 5, 1}}, api.Span{}, false},
		{span, []text.Edit{{5, 6, 1}}, api.Span{}, false},
		{span, []text.Edit{{4, 6, 2}}, api.Span{}, false},
		{span, []text.Edit{{5, 9, 0}}, api.Span{}, false},
		{span, []text.Edit{{0, 9, 9}}, api.Span{}, false},
		// A span without a byte.
		{none, []text.Edit{{4, 4, 3}}, none, true},
		{none, []text.Edit{{4, 4, 0}}, none, true},
		{none, []text.Edit{{3, 3, 2}}, api.Span{From: 6, To: 6}, true},
		{none, []text.Edit{{5, 5, 2}}, none, true},
		{none, []text.Edit{{2, 4, 1}}, api.Span{From: 3, To: 3}, true},
		{none, []text.Edit{{4, 6, 1}}, none, true},
		{none, []text.Edit{{3, 5, 2}}, api.Span{}, false},
		{api.Span{}, []text.Edit{{0, 0, 7}}, api.Span{}, true},
		{api.Span{}, []text.Edit{{0, 5, 7}}, api.Span{}, true},
		// One behind the other, each by where the ones ahead left the span.
		{span, []text.Edit{{0, 0, 2}, {5, 5, 1}}, api.Span{From: 7, To: 9}, true},
		{span, []text.Edit{{0, 3, 0}, {3, 4, 1}}, api.Span{From: 1, To: 3}, true},
		{span, []text.Edit{{0, 0, 2}, {7, 7, 1}}, api.Span{}, false},
		{span, []text.Edit{{5, 5, 1}, {0, 0, 2}}, api.Span{}, false},
		{span, []text.Edit{{0, 0, 2}, {8, 9, 0}, {0, 2, 0}}, span, true},
		{none, []text.Edit{{4, 4, 3}, {0, 4, 1}, {1, 1, 1}}, api.Span{From: 1, To: 1}, true},
	} {
		if got, ok := text.Moved(c.s, c.l); got != c.want || ok != c.ok {
			t.Errorf("Moved(%v, %v) = %v, %v, not %v, %v", c.s, c.l, got, ok, c.want, c.ok)
		}
	}
}

// TestMoved: every span and every edit of a few bytes.
func TestMoved(t *testing.T) {
	const most = 5
	for from := range most {
		for to := from; to < most; to++ {
			s := api.Span{From: from, To: to}
			for at := range most {
				for end := at; end < most; end++ {
					for size := range 3 {
						x := text.Edit{From: at, To: end, Size: size}
						want, wantOK := moved(s, x)
						if got, ok := text.Moved(s, []text.Edit{x}); got != want || ok != wantOK {
							t.Errorf("Moved(%v, %v) = %v, %v, not %v, %v", s, x, got, ok, want, wantOK)
						}
					}
				}
			}
		}
	}
}

// TestMovedIsTotal: spans and edits of no text, too.
func TestMovedIsTotal(t *testing.T) {
	odd := []int{math.MinInt, math.MinInt + 1, -7, -1, 0, 1, 3, 7, math.MaxInt - 1, math.MaxInt}
	for _, from := range odd {
		for _, to := range odd {
			s := api.Span{From: from, To: to}
			for _, a := range odd {
				for _, b := range odd {
					for _, size := range odd {
						l := []text.Edit{{a, b, size}, {b, a, size}, {size, size, a}}
						got, ok := text.Moved(s, l)
						if again, same := text.Moved(s, l); again != got || same != ok {
							t.Fatalf("Moved(%v, %v): %v, %v, then %v, %v", s, l, got, ok, again, same)
						}
						if !ok && got != (api.Span{}) {
							t.Fatalf("Moved(%v, %v) = %v, false", s, l, got)
						}
					}
				}
			}
		}
	}
}

// TestOutsideOfEdits is the first half of P7.2, by Edits and Bytes alone.
func TestOutsideOfEdits(t *testing.T) {
	source := rand.New(rand.NewSource(4))
	for range 2000 {
		s := someText(source, 15)
		d := opened(t, 1, s)
		for _, c := range someChanges(source, 5) {
			applied(t, d, 2, c)
			now, l := string(d.Bytes()), d.Edits()
			if len(l) != 1 || l[0].From > l[0].To || l[0].To > len(s) || l[0].Size != len(c.Text) {
				t.Fatalf("%+v on %q: Edits %v", c, s, l)
			}
			if want := s[:l[0].From] + c.Text + s[l[0].To:]; now != want {
				t.Fatalf("%+v on %q: %q, though Edits says %v", c, s, now, l)
			}
			s = now
		}
	}
}

// TestMovedSpansKeepTheirBytes is the other half of P7.2: every span of a
// text, behind changes of all kinds.
func TestMovedSpansKeepTheirBytes(t *testing.T) {
	source := rand.New(rand.NewSource(5))
	kept, lost := 0, 0
	for range 1500 {
		s := someText(source, 12)
		d := opened(t, 1, s)
		applied(t, d, 2, someChanges(source, 3)...)
		b, edits := string(d.Bytes()), d.Edits()
		for from := range len(s) + 1 {
			for to := from; to <= len(s); to++ {
				span := api.Span{From: from, To: to}
				got, ok := text.Moved(span, edits)
				if want, wantOK := movedByAll(span, edits); got != want || ok != wantOK {
					t.Fatalf("Moved(%v, %v) = %v, %v, not %v, %v", span, edits, got, ok, want, wantOK)
				}
				if !ok {
					lost++
					continue
				}
				kept++
				if got.From < 0 || got.To > len(b) || b[got.From:got.To] != s[from:to] {
					t.Fatalf("the bytes %v of %q are at %v of %q", span, s, got, b)
				}
			}
		}
	}
	if kept < 1000 || lost < 1000 {
		t.Error("spans that moved, and that didn't:", kept, lost)
	}
}

func movedByAll(s api.Span, edits []text.Edit) (api.Span, bool) {
	for _, x := range edits {
		var ok bool
		if s, ok = moved(s, x); !ok {
			return api.Span{}, false
		}
	}
	return s, true
}

// TestNamesMove: a word that stands once in a text is found where Moved says.
func TestNamesMove(t *testing.T) {
	const ahead = "fn f() -> int = 1;\nfn goal() -> int = 2;\n"
	at := strings.Index(ahead, "goal")
	d := opened(t, 1, ahead)
	applied(t, d, 2, ranged(0, 16, 0, 17, "1 + \u20ac"), ranged(1, 0, 1, 0, "# \U0001f600\r\n"), ranged(2, 7, 2, 8, "(x: int"), ranged(9, 0, 9, 0, "end"))
	s, ok := text.Moved(api.Span{From: at, To: at + 4}, d.Edits())
	if want := strings.Index(string(d.Bytes()), "goal"); !ok || s != (api.Span{From: want, To: want + 4}) {
		t.Errorf("goal is at %d of %q, not at %v, %v", want, d.Bytes(), s, ok)
	}
	if s, ok := text.Moved(api.Span{From: at, To: at + 5}, d.Edits()); ok || s != (api.Span{}) {
		t.Error("a span that was touched", s, ok)
	}
}
