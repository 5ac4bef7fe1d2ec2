package lex_test

import (
	"bytes"
	"slices"
	"testing"

	"whetstone/api"
	"whetstone/lex"
)

const room = "//room;#"

// roomy is a text's bytes with room behind them.
func roomy(s string) []byte {
	return []byte(s + room)[:len(s)]
}

func TestArgumentsStayAsTheyAre(t *testing.T) {
	for _, s := range texts() {
		b := roomy(s)
		lex.Tokens(b)
		for range lex.Items(b) {
		}
		if string(b[:len(s)+len(room)]) != s+room {
			t.Fatalf("%q was changed into %q", s, b[:len(s)+len(room)])
		}
		want, wantAt, wantE := wanted(s)
		if l, at, e := lex.Tokens(b); !slices.Equal(l, want) || at != wantAt || e != wantE {
			t.Fatalf("the room behind %q is read", s)
		}
		if got := slices.Collect(lex.Items(b)); !slices.Equal(got, wantedItems(s)) {
			t.Fatalf("the room behind %q is read: %v", s, got)
		}
	}
}

// TestItemsKeepNothing: what becomes of the bytes behind the call is no matter
// of the iterator, gone through for the first time or again.
func TestItemsKeepNothing(t *testing.T) {
	for _, s := range texts() {
		b := []byte(s)
		items := lex.Items(b)
		for _, c := range []byte{';', 'a', '/'} {
			copy(b, bytes.Repeat([]byte{c}, len(b)))
			if got := slices.Collect(items); !slices.Equal(got, wantedItems(s)) {
				t.Fatalf("Items(%q) goes through %v, the bytes being changed", s, got)
			}
		}
	}
}

func TestTokensAreNewMemory(t *testing.T) {
	for _, s := range texts() {
		want, _, _ := wanted(s)
		b := []byte(s)
		first, _, _ := lex.Tokens(b)
		second, _, _ := lex.Tokens(b)
		clear(b)
		clear(first[:cap(first)])
		if !slices.Equal(second, want) {
			t.Fatalf("the tokens of %q aren't their own memory: %v", s, second)
		}
	}
}

// TestItemsLeftAndGoneThroughAgain: at each place, and one within the other.
func TestItemsLeftAndGoneThroughAgain(t *testing.T) {
	for _, s := range texts() {
		want := wantedItems(s)
		items := lex.Items([]byte(s))
		for n := range len(want) {
			var got []api.Span
			for item := range items {
				got = append(got, item)
				if len(got) == n+1 {
					break
				}
			}
			if !slices.Equal(got, want[:n+1]) {
				t.Fatalf("Items(%q), left behind %d: %v", s, n+1, got)
			}
		}
		i := 0
		for item := range items {
			if inner := slices.Collect(items); item != want[i] || !slices.Equal(inner, want) {
				t.Fatalf("Items(%q) within itself: %v, %v", s, item, inner)
			}
			i++
		}
		if i != len(want) {
			t.Fatalf("Items(%q) ends behind %d", s, i)
		}
	}
}

// TestItemsAreNotToldBehindLeaving: a yield that says no isn't called again.
func TestItemsAreNotToldBehindLeaving(t *testing.T) {
	for _, s := range []string{"a", "a;", "a;b", "a;b;c", ";;;"} {
		calls := 0
		lex.Items([]byte(s))(func(api.Span) bool {
			calls++
			return false
		})
		if calls != 1 {
			t.Errorf("Items(%q) was left once, and told %d", s, calls)
		}
	}
}

func TestNilAndEmptyAreOne(t *testing.T) {
	for _, b := range [][]byte{nil, {}} {
		l, at, e := lex.Tokens(b)
		if len(l) != 1 || l[0] != (lex.Token{}) || at != 0 || e != api.OK {
			t.Error("Tokens of nothing", l, at, e)
		}
		items := lex.Items(b)
		if items == nil || len(slices.Collect(items)) != 0 {
			t.Error("Items of nothing")
		}
	}
}
