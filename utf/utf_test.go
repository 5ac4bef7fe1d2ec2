package utf_test

import (
	"slices"
	"testing"
	"unicode/utf16"

	"whetstone/api"
	"whetstone/utf"
)

// heard is what an iterator tells.
func heard(b []byte) []letter {
	var all []letter
	for at, r := range utf.Letters(b) {
		all = append(all, letter{at: at, r: r})
	}
	return all
}

// told is the same of the letters that are wanted.
func told(all []letter) []letter {
	var out []letter
	for _, l := range all {
		out = append(out, letter{at: l.at, r: l.r})
	}
	return out
}

func firstNone(all []letter) (int, api.Errno) {
	for _, l := range all {
		if l.r == -1 {
			return l.at, api.ErrUtf
		}
	}
	return 0, api.OK
}

func unitsOf(all []letter) int {
	sum := 0
	for _, l := range all {
		sum += l.units
	}
	return sum
}

// checkLetters holds all that is told of letters against the definition.
func checkLetters(t *testing.T, b []byte) {
	t.Helper()
	want := lettersBetween(b, 0, len(b))
	if got := heard(b); !slices.Equal(got, told(want)) {
		t.Fatalf("Letters(%q) = %v, not %v", b, got, want)
	}
	at, e := firstNone(want)
	if gotAt, got := utf.Valid(b); gotAt != at || got != e {
		t.Fatalf("Valid(%q) = %d, %d, not %d, %d", b, gotAt, got, at, e)
	}
	if got := utf.Units(b); got != unitsOf(want) {
		t.Fatalf("Units(%q) = %d, not %d", b, got, unitsOf(want))
	}
}

func TestLettersOfTexts(t *testing.T) {
	for _, b := range texts() {
		checkLetters(t, b)
	}
}

// TestLettersOfBytes goes through all pairs of bytes, and through longer runs
// of those bytes at which something changes.
func TestLettersOfBytes(t *testing.T) {
	for i := range 1 << 16 {
		checkLetters(t, []byte{byte(i >> 8), byte(i)})
	}
	edges := []byte{0, '\n', 0x7F, 0x80, 0x8F, 0x90, 0x9F, 0xA0, 0xBF, 0xC0, 0xC1, 0xC2, 0xDF, 0xE0, 0xE1, 0xEC, 0xED, 0xEE, 0xEF, 0xF0, 0xF1, 0xF3, 0xF4, 0xF5, 0xFF}
	for _, a := range edges {
		for _, b := range edges {
			for _, c := range edges {
				checkLetters(t, []byte{a, b, c})
				for _, d := range edges {
					checkLetters(t, []byte{a, b, c, d})
				}
			}
		}
	}
}

func TestValidTellsWellFormedTexts(t *testing.T) {
	for _, s := range wellFormed() {
		if at, e := utf.Valid([]byte(s)); at != 0 || e != api.OK {
			t.Errorf("Valid(%q) = %d, %d", s, at, e)
		}
		if got, want := utf.Units([]byte(s)), len(utf16.Encode([]rune(s))); got != want {
			t.Errorf("Units(%q) = %d, not %d", s, got, want)
		}
	}
	for _, s := range broken() {
		if _, e := utf.Valid([]byte(s)); e != api.ErrUtf {
			t.Errorf("Valid(%q): %d", s, e)
		}
	}
}

func TestValidTellsTheFirstByte(t *testing.T) {
	for s, want := range map[string]int{
		"\xff": 0, "a\xff\xff": 1, "\u20ac\x82": 3, "\U0001f600\xed\xa0\x80": 4, "ab\xe2\x82": 2, "a\xe2\x82b": 1, "\ufffd\xff": 3,
	} {
		if at, e := utf.Valid([]byte(s)); at != want || e != api.ErrUtf {
			t.Errorf("Valid(%q) = %d, %d, not %d", s, at, e, want)
		}
	}
}

func TestEncodeAllLetters(t *testing.T) {
	for r := range 0x110000 {
		got, e := utf.Encode(rune(r))
		if !isLetter(r) {
			if e != api.ErrUtf || len(got) != 0 {
				t.Fatalf("Encode(%x) = %x, %d", r, got, e)
			}
			continue
		}
		if e != api.OK || !slices.Equal(got, spelled(r)) {
			t.Fatalf("Encode(%x) = %x, %d, not %x", r, got, e, spelled(r))
		}
		if back := heard(got); len(back) != 1 || back[0].r != rune(r) {
			t.Fatalf("Encode(%x) is read as %v", r, back)
		}
	}
}

func TestEncodeWhatIsNoLetter(t *testing.T) {
	for _, r := range []rune{-1, -2, -1 << 31, 0xD800, 0xDBFF, 0xDC00, 0xDFFF, 0x110000, 0x110001, 0x1FFFFF, 1<<31 - 1} {
		if b, e := utf.Encode(r); e != api.ErrUtf || len(b) != 0 {
			t.Errorf("Encode(%x) = %x, %d", r, b, e)
		}
	}
}

func TestLettersMayBeLeftAndGoneThroughAgain(t *testing.T) {
	for _, b := range texts() {
		all := heard(b)
		again := utf.Letters(b)
		for stop := range len(all) + 1 {
			var got []letter
			for at, r := range again {
				if len(got) == stop {
					break
				}
				got = append(got, letter{at: at, r: r})
			}
			if !slices.Equal(got, all[:stop]) {
				t.Fatalf("Letters(%q), left at %d: %v, not %v", b, stop, got, all[:stop])
			}
		}
	}
}

func TestLettersWithinLetters(t *testing.T) {
	s := utf.Letters([]byte("a\u20ac\xff"))
	pairs := 0
	for range s {
		for range s {
			pairs++
		}
	}
	if pairs != 9 {
		t.Error("an iterator within itself tells pairs:", pairs)
	}
}

func TestLettersOfNothingIsNotNil(t *testing.T) {
	for _, b := range [][]byte{nil, {}} {
		s := utf.Letters(b)
		if s == nil {
			t.Fatal("Letters of nothing is nil")
		}
		for at, r := range s {
			t.Error("Letters of nothing tells", at, r)
		}
	}
}
