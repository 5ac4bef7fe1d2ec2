package text_test

import (
	"math/rand"
	"strings"
	"testing"

	"whetstone/api"
	"whetstone/text"
)

// stays: Apply answers the error, and nothing is changed.
func stays(t *testing.T, d *text.Doc, m model, changes []text.Change, want api.Errno) {
	t.Helper()
	if e := d.Apply(m.version+1, changes); e != want {
		t.Fatalf("Apply on %q: %v, not %v", short(m.text), e, want)
	}
	m.holds(t, d)
}

// TestErrorsChangeNothing: a change that goes wrong stands at each place among
// others that don't.
func TestErrorsChangeNothing(t *testing.T) {
	good := []text.Change{ranged(0, 1, 1, 0, "xy"), all("new\r\ntext"), ranged(1, 0, 0, 0, "\n")}
	edits := []text.Edit{{0, 0, 2}}
	for _, s := range broken() {
		for _, c := range []text.Change{all(s), ranged(0, 0, 0, 1, s), ranged(1, 1, 0, 0, s), ranged(-1, 0, 99, 99, s)} {
			for i := range len(good) + 1 {
				d := opened(t, 4, "b\nc\n")
				applied(t, d, 7, ranged(0, 0, 0, 0, "a\r"))
				m := model{7, "a\rb\nc\n", edits}
				changes := append(append(append([]text.Change{}, good[:i]...), c), good[i:]...)
				stays(t, d, m, changes, api.ErrUtf)
				m.placesHold(t, d)
			}
		}
	}
}

// TestTextsByThemselves: what two texts would be together, or with the
// document's bytes, is no matter.
func TestTextsByThemselves(t *testing.T) {
	d := opened(t, 1, "ab")
	stays(t, d, model{version: 1, text: "ab"}, []text.Change{ranged(0, 1, 0, 1, "\xe2"), ranged(0, 2, 0, 2, "\x82\xac")}, api.ErrUtf)
	stays(t, d, model{version: 1, text: "ab"}, []text.Change{ranged(0, 1, 0, 1, "\xe2"), all("c")}, api.ErrUtf)
}

func TestTooManyBytes(t *testing.T) {
	full := strings.Repeat("a", api.MaxText-2) + "\n\n"
	m := model{version: 1, text: full}
	d := opened(t, 1, full)
	for _, changes := range [][]text.Change{
		{all(full + "a")},
		{ranged(0, 0, 0, 0, "a")},
		{ranged(9, 9, 9, 9, "\u20ac")},
		{ranged(0, 2, 0, 1, "a")}, // none give way, To being ahead of From
		{ranged(0, 0, 0, 2, "abc")},
		{ranged(0, 0, 0, 1, "\u00e9")},
		{ranged(0, 0, 0, 1, full)},
		{all(full), ranged(0, 0, 0, 0, "a")},
		{ranged(0, 0, 0, 0, "a"), all("")}, // too many on the way, though not at the end
		{ranged(0, 0, 0, 0, "a"), ranged(0, 0, 0, 1, "")},
		{ranged(0, 0, 0, 0, "a"), all("\xff")}, // the first change that has an error
		{ranged(0, 0, 0, 1, ""), ranged(0, 0, 0, 0, "ab")},
	} {
		stays(t, d, m, changes, api.ErrBig)
	}
	for _, changes := range [][]text.Change{
		{all(full + "\xff")},
		{ranged(0, 0, 0, 0, "\xff")},
		{all("\xff"), ranged(0, 0, 0, 0, "a")},
		{all(""), all("\xff"), all(full + "a")},
	} {
		stays(t, d, m, changes, api.ErrUtf)
	}
}

// TestFull: MaxText bytes are allowed, and a full document can be changed.
func TestFull(t *testing.T) {
	full := strings.Repeat("a", api.MaxText)
	d := opened(t, 1, "")
	for i, c := range []struct {
		change text.Change
		behind string
		edit   text.Edit
	}{
		{all(full), full, text.Edit{From: 0, To: 0, Size: api.MaxText}},
		{ranged(0, 1, 0, 2, "b"), "ab" + full[2:], text.Edit{From: 1, To: 2, Size: 1}},
		{ranged(0, 5, 0, 5, ""), "ab" + full[2:], text.Edit{From: 5, To: 5}},
		{ranged(0, 1, 0, 2, ""), full[1:], text.Edit{From: 1, To: 2}},
		{ranged(0, api.MaxText, 0, 0, "c"), full[1:] + "c", text.Edit{From: api.MaxText - 1, To: api.MaxText - 1, Size: 1}},
		{all(full), full, text.Edit{From: 0, To: api.MaxText, Size: api.MaxText}},
		{all(""), "", text.Edit{From: 0, To: api.MaxText}},
		{ranged(0, 0, 0, 0, full), full, text.Edit{From: 0, To: 0, Size: api.MaxText}},
		{ranged(0, 0, 1, 0, full), full, text.Edit{From: 0, To: api.MaxText, Size: api.MaxText}},
	} {
		applied(t, d, i, c.change)
		model{i, c.behind, []text.Edit{c.edit}}.holds(t, d)
	}
}

// TestErrorsAmongMany: changes with errors among those without, held against
// the chapter's words.
func TestErrorsAmongMany(t *testing.T) {
	source := rand.New(rand.NewSource(3))
	wrong := 0
	for range 500 {
		m := model{version: 1, text: someText(source, 10)}
		d := opened(t, 1, m.text)
		for version := 2; version < 8; version++ {
			changes := someChanges(source, 4)
			if len(changes) > 0 && source.Intn(2) == 0 {
				changes[source.Intn(len(changes))].Text += broken()[source.Intn(len(broken()))]
			}
			next, want := m.apply(version, changes)
			if e := d.Apply(version, changes); e != want {
				t.Fatalf("Apply(%+v) on %q: %v, not %v", changes, m.text, e, want)
			}
			if want != api.OK {
				wrong++
			}
			next.holds(t, d)
			m = next
		}
		m.placesHold(t, d)
	}
	if wrong < 500 {
		t.Error("too few changes went wrong:", wrong)
	}
}
