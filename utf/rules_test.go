package utf_test

import (
	"slices"
	"testing"

	"whetstone/api"
	"whetstone/utf"
)

const spare = 8

// roomy is the same list with room behind it, filled with a mark.
func roomy[E byte | int](l []E) []E {
	all := append(slices.Clone(l), make([]E, spare)...)
	for i := range spare {
		all[len(l)+i] = 77
	}
	return all[:len(l)]
}

func sameWithRoom[E byte | int](t *testing.T, what string, got, want []E) {
	t.Helper()
	if all := got[:len(got)+spare]; !slices.Equal(all, roomy(want)[:len(want)+spare]) {
		t.Fatalf("%s changes what it is given: %v, not %v", what, all, want)
	}
}

func TestArgumentsStayAsTheyAre(t *testing.T) {
	for _, text := range texts() {
		own := utf.Lines(text)
		b, lines := roomy(text), roomy(own)
		for what, call := range map[string]func(){
			"Valid":  func() { utf.Valid(b) },
			"Units":  func() { utf.Units(b) },
			"Lines":  func() { utf.Lines(b) },
			"Offset": func() { utf.Offset(b, lines, api.Pos{Line: 1, Unit: 1}) },
			"Place":  func() { utf.Place(b, lines, 1) },
			"Letters": func() {
				for range utf.Letters(b) {
				}
			},
		} {
			call()
			sameWithRoom(t, what, b, text)
			sameWithRoom(t, what, lines, own)
		}
	}
}

// TestLettersKeepNothing: what becomes of the bytes behind the call is no
// matter of the iterator.
func TestLettersKeepNothing(t *testing.T) {
	for _, text := range texts() {
		want := heard(text)
		b := slices.Clone(text)
		s := utf.Letters(b)
		clear(b)
		var got []letter
		for at, r := range s {
			got = append(got, letter{at: at, r: r})
		}
		if !slices.Equal(got, want) {
			t.Fatalf("Letters(%q) tells %v of bytes that were changed", text, got)
		}
	}
}

func TestAnswersAreNewMemory(t *testing.T) {
	first, _ := utf.Encode('a')
	second, _ := utf.Encode('a')
	first[0] = 'b'
	if string(second) != "a" {
		t.Error("two letters share their bytes")
	}
	b := []byte("a\nb")
	one, two := utf.Lines(b), utf.Lines(b)
	one[0], one[1] = 5, 5
	if !slices.Equal(two, []int{0, 2}) || string(b) != "a\nb" {
		t.Error("two lists of lines share their memory")
	}
}

func TestNilAndEmptyAreOne(t *testing.T) {
	for _, b := range [][]byte{nil, {}} {
		for _, lines := range [][]int{nil, {}} {
			if utf.Offset(b, lines, api.Pos{}) != 0 || utf.Place(b, lines, 0) != (api.Pos{}) {
				t.Error("positions of nothing")
			}
		}
		if at, e := utf.Valid(b); at != 0 || e != api.OK || utf.Units(b) != 0 || len(utf.Lines(b)) != 1 {
			t.Error("letters and lines of nothing")
		}
	}
}
