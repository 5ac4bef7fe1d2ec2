package lex_test

import (
	"math/rand"
	"regexp"
	"slices"
	"strings"
	"testing"

	"whetstone/api"
	"whetstone/lex"
)

// words are those of the chapter.
func words() []string {
	return strings.Fields("fn pub qual let in if then else assert true false int bool arr get set len fill not and or v")
}

// signs are those of the chapter.
func signs() []string {
	return strings.Fields("-> <= >= != ( ) { } , : = ; + - * / % < >")
}

// The chapter's words as expressions of another library: blanks and remarks,
// names and words, numbers, signs.
var piece = regexp.MustCompile(`^(?:([ \t\n\r]|//[^\n]*)|([a-z][a-z0-9_]*)|([0-9]+)|(->|<=|>=|!=|[(){},:=;+\-*/%<>]))`)

// wanted is what Tokens must answer.
func wanted(s string) ([]lex.Token, int, api.Errno) {
	var l []lex.Token
	for at := 0; at < len(s); {
		m := piece.FindStringSubmatch(s[at:])
		if m == nil {
			return nil, at, api.ErrToken
		}
		if len(m[2]) > 24 || len(m[3]) > 40 {
			return nil, at, api.ErrBig
		}
		kind := 0
		switch {
		case m[2] != "" && slices.Contains(words(), m[2]):
			kind = 2
		case m[2] != "":
			kind = 1
		case m[3] != "":
			kind = 3
		case m[4] != "":
			kind = 4
		}
		end := at + len(m[0])
		if kind > 0 {
			l = append(l, lex.Token{Kind: kind, Text: s[at:end], Span: api.Span{From: at, To: end}})
		}
		at = end
	}
	return append(l, lex.Token{Span: api.Span{From: len(s), To: len(s)}}), 0, api.OK
}

// hidden is a text with blanks instead of its remarks, byte by byte.
func hidden(s string) string {
	return regexp.MustCompile(`//[^\n]*`).ReplaceAllStringFunc(s, func(remark string) string {
		return strings.Repeat(" ", len(remark))
	})
}

// wantedItems is what Items must go through.
func wantedItems(s string) []api.Span {
	var l []api.Span
	from := 0
	for part := range strings.SplitAfterSeq(hidden(s), ";") {
		if strings.HasSuffix(part, ";") || strings.Trim(part, " \t\n\r") != "" {
			l = append(l, api.Span{From: from, To: from + len(part)})
		}
		from += len(part)
	}
	return l
}

func itemsOf(s string) []api.Span {
	return slices.Collect(lex.Items([]byte(s)))
}

// holds: Tokens and Items answer of a text what they must.
func holds(t *testing.T, s string) {
	t.Helper()
	want, wantAt, wantE := wanted(s)
	l, at, e := lex.Tokens([]byte(s))
	if !slices.Equal(l, want) || at != wantAt || e != wantE {
		t.Fatalf("Tokens(%q) = %v, %d, %d, not %v, %d, %d", s, l, at, e, want, wantAt, wantE)
	}
	if got, want := itemsOf(s), wantedItems(s); !slices.Equal(got, want) {
		t.Fatalf("Items(%q) goes through %v, not %v", s, got, want)
	}
}

func fails(t *testing.T, s string, wantAt int, want api.Errno) {
	t.Helper()
	if l, at, e := lex.Tokens([]byte(s)); len(l) != 0 || at != wantAt || e != want {
		t.Errorf("Tokens(%q) = %v, %d, %d, not %d, %d", s, l, at, e, wantAt, want)
	}
}

// someText is one of parts that are near to tokens, blanks and remarks.
func someText(source *rand.Rand, most int) string {
	parts := slices.Concat(words(), signs(), []string{
		" ", "\t", "\n", "\r", "\r\n", "//", "// ;", "/", "//\n", "// x\n", ";", ";", ";\n", "-", ">", "<", "=", "!=",
		"a", "b1", "x_", "f_9z", "fnx", "vv", "0", "7", "007", "42", "_", "9a",
	})
	var s strings.Builder
	for range source.Intn(most + 1) {
		s.WriteString(parts[source.Intn(len(parts))])
	}
	return s.String()
}

// someBytes is a text with bytes of all kinds, mostly such as tokens have.
func someBytes(source *rand.Rand, most int) string {
	b := make([]byte, source.Intn(most+1))
	for i := range b {
		const near = "//;;\n -><=!az09_"
		b[i] = near[source.Intn(len(near))]
		if source.Intn(12) == 0 {
			b[i] = byte(source.Intn(256))
		}
	}
	return string(b)
}

// texts are some of all kinds.
func texts() []string {
	source := rand.New(rand.NewSource(1))
	all := []string{
		"", " ", ";", ";;", "a", "// only", "\n// a\n", "a; // ;\nb;c ", "fn f(x: int{v > 0}) -> int = x+1*2;", "#", "a#b;c", strings.Repeat("a", 25), "x;" + strings.Repeat("1", 41) + ";y",
	}
	for range 150 {
		all = append(all, someText(source, 12), someBytes(source, 15))
	}
	return all
}
