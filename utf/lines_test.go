package utf_test

import (
	"math"
	"slices"
	"strings"
	"testing"

	"whetstone/api"
	"whetstone/utf"
)

func TestExamples(t *testing.T) {
	b := []byte("a\xe2\x82\xacb")
	lines := utf.Lines(b)
	if at, e := utf.Valid(b); at != 0 || e != api.OK {
		t.Error("Valid", at, e)
	}
	if n := utf.Units(b); n != 3 {
		t.Error("Units", n)
	}
	if at := utf.Offset(b, lines, api.Pos{Line: 0, Unit: 2}); at != 4 {
		t.Error("Offset", at)
	}
	if p := utf.Place(b, lines, 2); p != (api.Pos{Line: 0, Unit: 1}) {
		t.Error("Place", p)
	}
	if at, e := utf.Valid([]byte("\xed\xa0\x80")); at != 0 || e != api.ErrUtf {
		t.Error("Valid of a surrogate", at, e)
	}
	if l := utf.Lines([]byte("a\r\nb\rc")); !slices.Equal(l, []int{0, 3, 5}) {
		t.Error("Lines", l)
	}
}

func TestLines(t *testing.T) {
	for s, want := range map[string][]int{
		"": {0}, "a": {0}, "\n": {0, 1}, "\r": {0, 1}, "\r\n": {0, 2}, "\n\r": {0, 1, 2}, "\r\r\n": {0, 1, 3}, "\r\n\n": {0, 2, 3}, "\r\n\r\n": {0, 2, 4},
		"a\n": {0, 2}, "\u20ac\nb\r": {0, 4, 6}, "\u2028\u0085\v\f": {0}, "\xff\n\x80\r\xe2": {0, 2, 4}, "a\rb\nc\r\nd": {0, 2, 4, 7},
	} {
		if got := utf.Lines([]byte(s)); !slices.Equal(got, want) {
			t.Errorf("Lines(%q) = %v, not %v", s, got, want)
		}
	}
	if got := utf.Lines(nil); !slices.Equal(got, []int{0}) {
		t.Error("Lines(nil)", got)
	}
}

// TestLinesPartTheText reads lines back: all but the last end as lines end,
// and none has an end within it.
func TestLinesPartTheText(t *testing.T) {
	one := strings.NewReplacer("\r\n", "\n", "\r", "\n")
	for _, b := range texts() {
		var parts []string
		lines := utf.Lines(b)
		for i, from := range lines {
			to := len(b)
			if i+1 < len(lines) {
				to = lines[i+1]
			}
			parts = append(parts, one.Replace(string(b[from:to])))
		}
		if want := strings.SplitAfter(one.Replace(string(b)), "\n"); !slices.Equal(parts, want) {
			t.Fatalf("Lines(%q) parts it as %q, not as %q", b, parts, want)
		}
	}
}

// listsOfLines are a text's own lines, and such as are no text's: out of
// order, twice, within letters and ends, outside the text, none.
func listsOfLines(b []byte) [][]int {
	n := len(b)
	return [][]int{
		utf.Lines(b), nil, {}, {0}, {1}, {2, 1}, {n}, {n + 1}, {n + 5, 0}, {0, n + 5}, {-3}, {-3, -1, 2}, {0, 0, 0}, {3, 1, 2, 0, 4}, {0, 1, 2, 3, 4, 5},
		{math.MinInt, math.MaxInt}, {math.MaxInt, math.MinInt}, {0, n}, {n / 2}, {n / 2, n / 3},
	}
}

var farOff = []int{math.MinInt, math.MinInt + 1, -1000, math.MaxInt - 1, math.MaxInt}

// around counts from ahead of nothing to behind most, and tells what is far off.
func around(most int) []int {
	all := slices.Clone(farOff)
	for i := -2; i <= most+3; i++ {
		all = append(all, i)
	}
	return all
}

func TestOffset(t *testing.T) {
	for _, b := range texts() {
		for _, lines := range listsOfLines(b) {
			for _, l := range around(len(lines)) {
				for _, unit := range around(utf.Units(b)) {
					p := api.Pos{Line: l, Unit: unit}
					if got, want := utf.Offset(b, lines, p), offset(b, lines, p); got != want {
						t.Fatalf("Offset(%q, %v, %v) = %d, not %d", b, lines, p, got, want)
					}
				}
			}
		}
	}
}

func TestPlace(t *testing.T) {
	for _, b := range texts() {
		for _, lines := range listsOfLines(b) {
			for _, at := range around(len(b)) {
				if got, want := utf.Place(b, lines, at), place(b, lines, at); got != want {
					t.Fatalf("Place(%q, %v, %d) = %v, not %v", b, lines, at, got, want)
				}
			}
		}
	}
}

// TestOffsetByHand: the edges that the chapter names, worked out by hand.
func TestOffsetByHand(t *testing.T) {
	const text = "x\U0001f600y\r\n\xff\u20ac\nlast" // lines at 0, 8, 13
	for _, c := range []struct{ line, unit, want int }{
		{0, 0, 0}, {0, 1, 1}, {0, 2, 1}, {0, 3, 5}, {0, 4, 6}, {0, 5, 6}, {0, 99, 6}, {0, -1, 0},
		{1, -1, 8}, {1, 0, 8}, {1, 1, 9}, {1, 2, 12}, {1, 3, 12}, {2, 0, 13}, {2, 3, 16}, {2, 4, 17}, {2, 5, 17},
		{3, 0, 17}, {4, 2, 17}, {-1, 3, 0}, {-1, 0, 0},
	} {
		b := []byte(text)
		if got := utf.Offset(b, utf.Lines(b), api.Pos{Line: c.line, Unit: c.unit}); got != c.want {
			t.Errorf("Offset({%d, %d}) = %d, not %d", c.line, c.unit, got, c.want)
		}
	}
	if got := utf.Offset([]byte("ab"), nil, api.Pos{}); got != 2 {
		t.Error("Offset without lines", got)
	}
}

func TestPlaceByHand(t *testing.T) {
	const text = "x\U0001f600y\r\n\xff\u20ac\nlast"
	for _, c := range []struct{ at, line, unit int }{
		{-1, 0, 0}, {0, 0, 0}, {1, 0, 1}, {2, 0, 1}, {3, 0, 1}, {4, 0, 1}, {5, 0, 3}, {6, 0, 4}, {7, 0, 4},
		{8, 1, 0}, {9, 1, 1}, {10, 1, 1}, {11, 1, 1}, {12, 1, 2}, {13, 2, 0}, {16, 2, 3}, {17, 2, 4}, {18, 2, 4},
	} {
		b := []byte(text)
		if got, want := utf.Place(b, utf.Lines(b), c.at), (api.Pos{Line: c.line, Unit: c.unit}); got != want {
			t.Errorf("Place(%d) = %v, not %v", c.at, got, want)
		}
	}
	if got := utf.Place([]byte("ab"), nil, 1); got != (api.Pos{}) {
		t.Error("Place without lines", got)
	}
}

// TestLettersComeBack is P3.2. Only a 10 behind a 13 has no position of its
// own: it stands behind the end of its line's letters.
func TestLettersComeBack(t *testing.T) {
	for _, b := range texts() {
		if _, e := utf.Valid(b); e != api.OK {
			continue
		}
		lines := utf.Lines(b)
		for at := range utf.Letters(b) {
			if at > 0 && b[at] == '\n' && b[at-1] == '\r' {
				continue
			}
			if back := utf.Offset(b, lines, utf.Place(b, lines, at)); back != at {
				t.Fatalf("%q: the byte %d comes back as %d", b, at, back)
			}
		}
	}
}
