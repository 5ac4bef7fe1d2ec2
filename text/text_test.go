package text_test

import (
	"math"
	"math/rand"
	"slices"
	"strings"
	"testing"

	"whetstone/api"
	"whetstone/text"
	"whetstone/utf"
)

func TestExample(t *testing.T) {
	d := opened(t, 1, "ab\ncd")
	applied(t, d, 2, ranged(1, 1, 1, 1, "x"))
	edits := []text.Edit{{From: 4, To: 4, Size: 1}}
	model{2, "ab\ncxd", edits}.holds(t, d)
	if s, ok := text.Moved(api.Span{From: 5, To: 6}, edits); !ok || s != (api.Span{From: 6, To: 7}) {
		t.Error("Moved", s, ok)
	}
}

func TestOpen(t *testing.T) {
	for _, version := range []int{0, 1, -1, math.MinInt, math.MaxInt} {
		for _, s := range wellFormed() {
			d := opened(t, version, s)
			model{version: version, text: s}.holds(t, d)
			model{text: s}.placesHold(t, d)
		}
	}
}

func TestOpenErrors(t *testing.T) {
	full := strings.Repeat("\u20ac", api.MaxText/3) + "a"
	if len(full) != api.MaxText {
		t.Fatal(len(full))
	}
	model{version: 3, text: full}.holds(t, opened(t, 3, full))
	cases := map[string]api.Errno{
		full + "b":         api.ErrBig,
		full + full:        api.ErrBig,
		full + "\xff":      api.ErrBig,
		"\xff" + full:      api.ErrBig,
		full[1:]:           api.ErrUtf,
		full[1:] + "\n":    api.ErrUtf,
		full[:len(full)-2]: api.ErrUtf,
	}
	for _, s := range broken() {
		cases[s] = api.ErrUtf
	}
	for s, want := range cases {
		if d, e := text.Open(1, s); e != want || d != nil {
			t.Errorf("Open(%q): %v, %v, not %v", short(s), d, e, want)
		}
	}
}

// TestPlacesByHand: the edges of positions, worked out by hand.
func TestPlacesByHand(t *testing.T) {
	d := opened(t, 1, "x\U0001f600y\r\n\u20ac\nlast") // lines at 0, 8, 12
	for _, c := range []struct{ line, unit, want int }{
		{0, 0, 0}, {0, 1, 1}, {0, 2, 1}, {0, 3, 5}, {0, 4, 6}, {0, 99, 6}, {0, -1, 0}, {1, 0, 8}, {1, 1, 11}, {1, 2, 11},
		{2, 3, 15}, {2, 4, 16}, {2, 5, 16}, {3, 0, 16}, {99, 1, 16}, {-1, 3, 0}, {math.MaxInt, 0, 16}, {math.MinInt, 1, 0},
	} {
		if got := d.Offset(api.Pos{Line: c.line, Unit: c.unit}); got != c.want {
			t.Errorf("Offset({%d, %d}) = %d, not %d", c.line, c.unit, got, c.want)
		}
	}
	for _, c := range []struct{ at, line, unit int }{
		{-1, 0, 0}, {0, 0, 0}, {1, 0, 1}, {3, 0, 1}, {5, 0, 3}, {6, 0, 4}, {7, 0, 4}, {8, 1, 0}, {9, 1, 0}, {11, 1, 1}, {12, 2, 0}, {16, 2, 4}, {99, 2, 4},
		{math.MinInt, 0, 0}, {math.MaxInt, 2, 4},
	} {
		if got, want := d.Place(c.at), (api.Pos{Line: c.line, Unit: c.unit}); got != want {
			t.Errorf("Place(%d) = %v, not %v", c.at, got, want)
		}
	}
}

// TestPlacesAreLayer3s: also behind changes, by which ends of lines are joined
// and parted.
func TestPlacesAreLayer3s(t *testing.T) {
	d := opened(t, 1, "a\r")
	for _, c := range []text.Change{ranged(1, 0, 1, 0, "\nb"), ranged(0, 1, 0, 1, "\r"), ranged(1, 0, 1, 0, "x"), ranged(0, 1, 9, 9, ""), all("\n\r\n"), all("")} {
		applied(t, d, 1, c)
		b := d.Bytes()
		lines := utf.Lines(b)
		for _, n := range around(len(b)) {
			for _, unit := range around(3) {
				p := api.Pos{Line: n, Unit: unit}
				if got, want := d.Offset(p), utf.Offset(b, lines, p); got != want {
					t.Errorf("Offset(%v) of %q = %d, not %d", p, b, got, want)
				}
			}
			if got, want := d.Place(n), utf.Place(b, lines, n); got != want {
				t.Errorf("Place(%d) of %q = %v, not %v", n, b, got, want)
			}
		}
	}
}

type step struct {
	ahead   string
	changes []text.Change
	behind  string
	edits   []text.Edit
}

// byHand are changes whose outcome was worked out by hand.
func byHand() []step {
	return []step{
		{"ab\ncd", nil, "ab\ncd", nil},
		{"ab\ncd", []text.Change{all("x")}, "x", []text.Edit{{0, 5, 1}}},
		{"ab\ncd", []text.Change{all("")}, "", []text.Edit{{0, 5, 0}}},
		{"", []text.Change{all("")}, "", []text.Edit{{0, 0, 0}}},
		{"", []text.Change{ranged(0, 0, 0, 0, "x")}, "x", []text.Edit{{0, 0, 1}}},
		{"ab\ncd", []text.Change{ranged(0, 1, 1, 1, "")}, "ad", []text.Edit{{1, 4, 0}}},
		{"ab\ncd", []text.Change{ranged(0, 1, 1, 1, "123")}, "a123d", []text.Edit{{1, 4, 3}}},
		{"ab\ncd", []text.Change{ranged(0, 0, 9, 0, "x")}, "x", []text.Edit{{0, 5, 1}}},
		{"ab\ncd", []text.Change{ranged(1, 1, 0, 1, "x")}, "ab\ncxd", []text.Edit{{4, 4, 1}}}, // To ahead of From
		{"ab\ncd", []text.Change{ranged(9, 9, -1, 0, "x")}, "ab\ncdx", []text.Edit{{5, 5, 1}}},
		{"ab\ncd", []text.Change{ranged(0, 2, 0, 0, "")}, "ab\ncd", []text.Edit{{2, 2, 0}}},
		{"ab\ncd", []text.Change{ranged(0, 99, 0, 99, "x")}, "abx\ncd", []text.Edit{{2, 2, 1}}}, // no such position
		{"ab\ncd", []text.Change{ranged(2, 0, 2, 0, "x")}, "ab\ncdx", []text.Edit{{5, 5, 1}}},
		{"ab\ncd", []text.Change{ranged(-1, 5, -1, 7, "x")}, "xab\ncd", []text.Edit{{0, 0, 1}}},
		{"ab\ncd", []text.Change{ranged(1, -1, 1, 1, "x")}, "ab\nxd", []text.Edit{{3, 4, 1}}},
		{"ab\r\ncd", []text.Change{ranged(0, 2, 1, 0, "")}, "abcd", []text.Edit{{2, 4, 0}}},
		{"ab\r\ncd", []text.Change{ranged(0, 3, 1, 0, "|")}, "ab|cd", []text.Edit{{2, 4, 1}}}, // nobody stands within a line's end
		{"a\U0001f600b", []text.Change{ranged(0, 2, 0, 3, "x")}, "axb", []text.Edit{{1, 5, 1}}},
		{"a\U0001f600b", []text.Change{ranged(0, 2, 0, 2, "\u20ac")}, "a\u20ac\U0001f600b", []text.Edit{{1, 1, 3}}}, // within a letter's units
		{"a\U0001f600b", []text.Change{ranged(0, 1, 0, 2, "x")}, "ax\U0001f600b", []text.Edit{{1, 1, 1}}},
		// Each change is one of what the change ahead left.
		{"ab\ncd", []text.Change{ranged(0, 0, 0, 0, "\n"), ranged(1, 0, 1, 2, "x")}, "\nx\ncd", []text.Edit{{0, 0, 1}, {1, 3, 1}}},
		{"ab\ncd", []text.Change{ranged(0, 2, 1, 0, ""), ranged(0, 3, 0, 4, "!"), ranged(0, 0, 0, 1, "")}, "bc!", []text.Edit{{2, 3, 0}, {3, 4, 1}, {0, 1, 0}}},
		{"ab\ncd", []text.Change{all("one\ntwo"), ranged(1, 3, 1, 3, "\r"), ranged(2, 0, 2, 0, "\nx"), ranged(2, 0, 2, 1, "y")}, "one\ntwo\r\ny", []text.Edit{{0, 5, 7}, {7, 7, 1}, {8, 8, 2}, {9, 10, 1}}},
		{"ab", []text.Change{ranged(0, 1, 0, 1, "x"), all("cd"), all("e")}, "e", []text.Edit{{1, 1, 1}, {0, 3, 2}, {0, 2, 1}}},
	}
}

func TestApplyByHand(t *testing.T) {
	for _, c := range byHand() {
		d := opened(t, 1, c.ahead)
		applied(t, d, 2, c.changes...)
		model{2, c.behind, c.edits}.holds(t, d)
	}
}

// TestApply: many changes of one document, held against the chapter's words
// written out once more.
func TestApply(t *testing.T) {
	source := rand.New(rand.NewSource(1))
	for range 300 {
		m := model{version: source.Intn(9), text: someText(source, 12)}
		d := opened(t, m.version, m.text)
		for range 8 {
			version, changes := source.Intn(9)-4, someChanges(source, 4)
			next, e := m.apply(version, changes)
			if got := d.Apply(version, changes); got != e {
				t.Fatalf("Apply(%+v) on %q: %v, not %v", changes, m.text, got, e)
			}
			next.holds(t, d)
			m = next
		}
		m.placesHold(t, d)
	}
}

// TestOneByOne: changes at once are as each by itself, and so are their edits.
func TestOneByOne(t *testing.T) {
	source := rand.New(rand.NewSource(2))
	for range 500 {
		s, changes := someText(source, 12), someChanges(source, 6)
		whole, parts := opened(t, 1, s), opened(t, 1, s)
		applied(t, whole, 2, changes...)
		var edits []text.Edit
		for _, c := range changes {
			applied(t, parts, 2, c)
			edits = append(edits, parts.Edits()...)
		}
		applied(t, parts, 2)
		if string(whole.Bytes()) != string(parts.Bytes()) || !slices.Equal(whole.Edits(), edits) || len(parts.Edits()) != 0 {
			t.Fatalf("%+v on %q: %q, %v, one by one %q, %v", changes, s, whole.Bytes(), whole.Edits(), parts.Bytes(), edits)
		}
	}
}

// TestVersion: any number is taken, also a lesser one, and without a change.
func TestVersion(t *testing.T) {
	d := opened(t, 5, "a")
	for _, version := range []int{6, 6, 2, 0, -1, math.MinInt, math.MaxInt} {
		applied(t, d, version)
		model{version: version, text: "a"}.holds(t, d)
		applied(t, d, version, ranged(0, 0, 0, 1, "a"))
		model{version, "a", []text.Edit{{0, 1, 1}}}.holds(t, d)
	}
}

// TestEditsAreTheLastOnes: of the last Apply that was OK, and none ahead of it.
func TestEditsAreTheLastOnes(t *testing.T) {
	d := opened(t, 1, "abc")
	for _, c := range []struct {
		changes []text.Change
		e       api.Errno
		want    []text.Edit
	}{
		{nil, api.OK, nil},
		{[]text.Change{all("\xff")}, api.ErrUtf, nil},
		{[]text.Change{ranged(0, 1, 0, 2, ""), ranged(0, 2, 0, 2, "xy")}, api.OK, []text.Edit{{1, 2, 0}, {2, 2, 2}}},
		{[]text.Change{ranged(0, 0, 0, 1, ""), all("\xff")}, api.ErrUtf, []text.Edit{{1, 2, 0}, {2, 2, 2}}},
		{[]text.Change{ranged(0, 0, 0, 0, "z")}, api.OK, []text.Edit{{0, 0, 1}}},
		{[]text.Change{}, api.OK, nil},
	} {
		if e := d.Apply(1, c.changes); e != c.e || !slices.Equal(d.Edits(), c.want) {
			t.Errorf("Apply(%+v): %v, Edits %v, not %v", c.changes, e, d.Edits(), c.want)
		}
	}
}
