package lex_test

import (
	"math/rand"
	"slices"
	"strings"
	"testing"

	"whetstone/api"
	"whetstone/lex"
)

func TestItemsByHand(t *testing.T) {
	for s, ends := range map[string][]int{
		"": nil, " \t\r\n": nil, "// a;b": nil, "//\n // ;\n": nil, ";": {1}, ";;": {1, 2}, " ; ;": {2, 4}, "; ": {1}, ";//": {1}, "; // x\n": {1},
		"a": {1}, "a ": {2}, " a": {2}, "a // x": {6}, "// x\na": {6}, "a;": {2}, "a;b": {2, 3}, "a;\n": {2}, "a;b;": {2, 4}, "a;\nb; \n": {2, 5},
		"// ;\n;": {6}, "a // ;\n;b": {8, 9}, "a//;": {4}, "a /;/ b;": {4, 8}, "a/ /;": {5}, "a///;\n;": {7}, "/": {1}, "/;": {2}, "a;/": {2, 3}, "a;//": {2},
		"#": {1}, "#;": {2}, "a;#": {2, 3}, "a; _": {2, 4}, "a;!;": {2, 4}, "\xff;\x00": {2, 3}, "\"//;\n;": {6}, "a;\v": {2, 3}, "a; \u00a0": {2, 5}, "'//' ;\n;": {8},
		"//\r;\n;": {6}, "a;// ;\nb": {2, 8}, "a;// ;\n": {2}, "a;// ;\n ;": {2, 9},
	} {
		want := []api.Span{}
		from := 0
		for _, to := range ends {
			want = append(want, api.Span{From: from, To: to})
			from = to
		}
		if got := itemsOf(s); !slices.Equal(got, want) {
			t.Errorf("Items(%q) goes through %v, not %v", s, got, want)
		}
		holds(t, s)
	}
}

// TestItemsOfAllBytes: an item needs no tokens that may be.
func TestItemsOfAllBytes(t *testing.T) {
	long := strings.Repeat("a", 99)
	for c := range 256 {
		s := string([]byte{byte(c)})
		holds(t, s+";"+s)
		holds(t, ";"+s+"/;/")
		holds(t, long+s+"//;\n"+s+";")
	}
}

// TestPiecesAreTheWholeText is P8.2: between tokens there is nothing but
// blanks and remarks, and behind the items neither.
func TestPiecesAreTheWholeText(t *testing.T) {
	source := rand.New(rand.NewSource(4))
	right := 0
	for range 20000 {
		s := someText(source, 14)
		between := func(from, to int) {
			if strings.Trim(hidden(s)[from:to], " \t\n\r") != "" {
				t.Fatalf("of %q, %q is neither of a token nor blank", s, s[from:to])
			}
		}
		at := 0
		for item := range lex.Items([]byte(s)) {
			if item.From != at || item.To <= at || item.To > len(s) {
				t.Fatalf("Items(%q): %v behind %d", s, item, at)
			}
			at = item.To
		}
		between(at, len(s))
		l, _, e := lex.Tokens([]byte(s))
		if e != api.OK {
			continue
		}
		right++
		at = 0
		for _, token := range l {
			between(at, token.Span.From)
			if s[token.Span.From:token.Span.To] != token.Text || (token.Text == "") != (token.Kind == lex.End) {
				t.Fatalf("Tokens(%q): %v", s, token)
			}
			at = token.Span.To
		}
		if last := l[len(l)-1]; at != len(s) || last.Kind != lex.End {
			t.Fatalf("Tokens(%q) end with %v", s, last)
		}
	}
	if right < 5000 {
		t.Error("too few texts have tokens:", right)
	}
}

// TestItemsTokensAreTheTexts is P8.3.
func TestItemsTokensAreTheTexts(t *testing.T) {
	source := rand.New(rand.NewSource(5))
	right, many := 0, 0
	for range 20000 {
		s := someText(source, 14)
		whole, at, e := lex.Tokens([]byte(s))
		var parts []lex.Token
		for item := range lex.Items([]byte(s)) {
			many++
			l, partAt, partE := lex.Tokens([]byte(s[item.From:item.To]))
			if partE != api.OK {
				if e != partE || at != partAt+item.From {
					t.Fatalf("%q goes wrong at %d, %d, its item %v at %d, %d", s, at, e, item, partAt, partE)
				}
				break
			}
			for _, token := range l[:len(l)-1] {
				token.Span.From += item.From
				token.Span.To += item.From
				parts = append(parts, token)
			}
		}
		if e != api.OK {
			continue
		}
		right++
		if !slices.Equal(parts, whole[:len(whole)-1]) {
			t.Fatalf("the tokens of %q are %v, its items' %v", s, whole, parts)
		}
	}
	if right < 5000 || many < 20000 {
		t.Error("too few texts:", right, many)
	}
}

// TestItemsHaveOneSemicolon: it is the last of an item's tokens.
func TestItemsHaveOneSemicolon(t *testing.T) {
	source := rand.New(rand.NewSource(6))
	for range 5000 {
		s := someText(source, 14)
		spans := itemsOf(s)
		for i, item := range spans {
			l, _, e := lex.Tokens([]byte(s[item.From:item.To]))
			if e != api.OK {
				continue
			}
			n := slices.IndexFunc(l, func(x lex.Token) bool { return x.Text == ";" })
			last := n >= 0 && n == len(l)-2 && l[n].Span.To == item.To-item.From
			if !last && (n >= 0 || i < len(spans)-1 || item.To != len(s) || len(l) < 2) {
				t.Fatalf("Items(%q): %v", s, item)
			}
		}
	}
}
