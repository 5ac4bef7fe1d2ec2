package text_test

import (
	"slices"
	"testing"

	"whetstone/api"
	"whetstone/text"
)

func TestNilDocument(t *testing.T) {
	var d *text.Doc
	for _, changes := range [][]text.Change{nil, {}, {all("a")}, {ranged(0, 0, 0, 0, "")}, {all("\xff")}} {
		if e := d.Apply(1, changes); e != api.ErrNil {
			t.Errorf("Apply(%+v): %v", changes, e)
		}
	}
	for _, n := range around(3) {
		if at := d.Offset(api.Pos{Line: n, Unit: n}); at != 0 {
			t.Error("Offset", n, at)
		}
		if p := d.Place(n); p != (api.Pos{}) {
			t.Error("Place", n, p)
		}
	}
	if b, l := d.Bytes(), d.Edits(); len(b) != 0 || len(l) != 0 {
		t.Error("Bytes, Edits", b, l)
	}
}

// TestZeroDocument: a document that nobody opened has no bytes, and can be
// changed.
func TestZeroDocument(t *testing.T) {
	d := &text.Doc{}
	model{}.holds(t, d)
	model{}.placesHold(t, d)
	applied(t, d, 1, ranged(3, 3, 0, 0, "a\nb"), ranged(1, 0, 1, 1, "c"))
	m := model{1, "a\nc", []text.Edit{{0, 0, 3}, {2, 3, 1}}}
	m.holds(t, d)
	m.placesHold(t, d)
}

// TestAnswersAreNewMemory is P7.3: what becomes of an answer, and of the room
// behind it, is nothing to the document, nor to another answer.
func TestAnswersAreNewMemory(t *testing.T) {
	d := opened(t, 1, "ab\ncd")
	applied(t, d, 2, ranged(1, 1, 1, 1, "x"), ranged(0, 0, 0, 1, "\u20ac"))
	m := model{2, "\u20acb\ncxd", []text.Edit{{4, 4, 1}, {0, 1, 3}}}
	b, l := d.Bytes(), d.Edits()
	for range 3 {
		first, edits := d.Bytes(), d.Edits()
		clear(first[:cap(first)])
		clear(edits[:cap(edits)])
		m.holds(t, d)
		m.placesHold(t, d)
	}
	_ = append(d.Bytes(), "more"...)
	_ = append(d.Edits(), text.Edit{From: 9})
	m.holds(t, d)
	if string(b) != m.text || !slices.Equal(l, m.edits) {
		t.Error("two answers share their memory", b, l)
	}
}

// TestAnswersStay: what a document was told behind an answer doesn't change it.
func TestAnswersStay(t *testing.T) {
	d := opened(t, 1, "ab\ncd")
	applied(t, d, 2, ranged(0, 0, 0, 1, "x"))
	b, l := d.Bytes(), d.Edits()
	applied(t, d, 3, ranged(0, 0, 0, 1, "y"), ranged(1, 0, 1, 2, "z"))
	applied(t, d, 4, all("other"))
	if string(b) != "xb\ncd" || !slices.Equal(l, []text.Edit{{0, 1, 1}}) {
		t.Error("answers that changed", string(b), l)
	}
}

// TestArgumentsStayAsTheyAre: the lists that are handed in, their spare room
// too, aren't changed, and not kept.
func TestArgumentsStayAsTheyAre(t *testing.T) {
	changes := []text.Change{ranged(0, 1, 0, 0, "x"), all("ab\ncd"), ranged(1, 0, 1, 1, "y"), ranged(9, 9, 9, 9, "room"), all("room")}
	was := slices.Clone(changes)
	d := opened(t, 1, "ab")
	applied(t, d, 2, changes[:3]...)
	if !slices.Equal(changes, was) {
		t.Error("Apply changes what it is given", changes)
	}
	clear(changes)
	model{2, "ab\nyd", []text.Edit{{1, 1, 1}, {0, 3, 5}, {3, 4, 1}}}.holds(t, d)

	edits := []text.Edit{{0, 0, 2}, {9, 9, 1}, {5, 5, 5}}
	if s, ok := text.Moved(api.Span{From: 3, To: 4}, edits[:2]); !ok || s != (api.Span{From: 5, To: 6}) {
		t.Error("Moved", s, ok)
	}
	if !slices.Equal(edits, []text.Edit{{0, 0, 2}, {9, 9, 1}, {5, 5, 5}}) {
		t.Error("Moved changes what it is given", edits)
	}
}

// TestDocumentsAreApart: what one is told is nothing to another, also where
// both were opened with one text.
func TestDocumentsAreApart(t *testing.T) {
	one, two := opened(t, 1, "ab\ncd"), opened(t, 1, "ab\ncd")
	applied(t, one, 2, ranged(0, 0, 0, 1, "x"))
	model{version: 1, text: "ab\ncd"}.holds(t, two)
	applied(t, two, 3, ranged(0, 1, 9, 0, "\n"))
	model{2, "xb\ncd", []text.Edit{{0, 1, 1}}}.holds(t, one)
	model{3, "a\n", []text.Edit{{1, 5, 1}}}.holds(t, two)
}

// TestHistorySaysNothing: two documents of one text answer the same, however
// they came by it.
func TestHistorySaysNothing(t *testing.T) {
	for _, c := range byHand() {
		told, fresh := opened(t, 1, c.ahead), opened(t, 9, c.behind)
		applied(t, told, 2, c.changes...)
		model{text: c.behind}.placesHold(t, told)
		again := []text.Change{ranged(0, 1, 1, 1, "\r"), ranged(1, 0, 0, 1, "\n\u20ac")}
		applied(t, told, 3, again...)
		applied(t, fresh, 3, again...)
		model{3, string(fresh.Bytes()), fresh.Edits()}.holds(t, told)
	}
}
