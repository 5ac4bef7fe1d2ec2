package lex_test

import (
	"math/rand"
	"slices"
	"strings"
	"testing"

	"whetstone/api"
	"whetstone/lex"
)

func token(kind int, text string, from int) lex.Token {
	return lex.Token{Kind: kind, Text: text, Span: api.Span{From: from, To: from + len(text)}}
}

func tokens(t *testing.T, s string, want ...lex.Token) {
	t.Helper()
	want = append(want, token(lex.End, "", len(s)))
	if l, at, e := lex.Tokens([]byte(s)); !slices.Equal(l, want) || at != 0 || e != api.OK {
		t.Errorf("Tokens(%q) = %v, %d, %d, not %v", s, l, at, e, want)
	}
}

func TestExamples(t *testing.T) {
	tokens(t, "a<=b1 // c", token(lex.Name, "a", 0), token(lex.Sign, "<=", 1), token(lex.Name, "b1", 3))
	fails(t, "x#", 1, api.ErrToken)
	want := []api.Span{{From: 0, To: 2}, {From: 2, To: 10}, {From: 10, To: 12}}
	if got := itemsOf("a; // ;\nb;c "); !slices.Equal(got, want) {
		t.Error("Items", got)
	}
}

func TestKinds(t *testing.T) {
	if lex.End != 0 || lex.Name != 1 || lex.Word != 2 || lex.Number != 3 || lex.Sign != 4 {
		t.Error("kinds")
	}
	for _, s := range words() {
		tokens(t, s, token(lex.Word, s, 0))
		tokens(t, s+"x", token(lex.Name, s+"x", 0))
		tokens(t, s+"_", token(lex.Name, s+"_", 0))
		tokens(t, "x"+s, token(lex.Name, "x"+s, 0))
		tokens(t, "1"+s, token(lex.Number, "1", 0), token(lex.Word, s, 1))
		tokens(t, s+" "+s, token(lex.Word, s, 0), token(lex.Word, s, len(s)+1))
	}
	for _, s := range signs() {
		tokens(t, s, token(lex.Sign, s, 0))
		tokens(t, "a"+s+"1", token(lex.Name, "a", 0), token(lex.Sign, s, 1), token(lex.Number, "1", 1+len(s)))
		tokens(t, " \t"+s+"\r\n", token(lex.Sign, s, 2))
	}
	for _, s := range []string{"a", "z", "az", "a0", "z9", "a_", "a__9", "f1_b", "vv", "fn1", "in_", "iff", "true0", "notx"} {
		tokens(t, s, token(lex.Name, s, 0))
	}
	for _, s := range []string{"0", "9", "00", "007", "10", "1234567890"} {
		tokens(t, s, token(lex.Number, s, 0))
	}
}

// TestAsLongAsCanBe: signs, names and numbers that go on.
func TestAsLongAsCanBe(t *testing.T) {
	sign := func(s string, at int) lex.Token { return token(lex.Sign, s, at) }
	tokens(t, "-->", sign("-", 0), sign("->", 1))
	tokens(t, "->>", sign("->", 0), sign(">", 2))
	tokens(t, "->=", sign("->", 0), sign("=", 2))
	tokens(t, "<==", sign("<=", 0), sign("=", 2))
	tokens(t, "=>=", sign("=", 0), sign(">=", 1))
	tokens(t, "<>", sign("<", 0), sign(">", 1))
	tokens(t, "=<", sign("=", 0), sign("<", 1))
	tokens(t, "!==", sign("!=", 0), sign("=", 2))
	tokens(t, "- >", sign("-", 0), sign(">", 2))
	tokens(t, "< =", sign("<", 0), sign("=", 2))
	tokens(t, "/ /", sign("/", 0), sign("/", 2))
	tokens(t, "1a2", token(lex.Number, "1", 0), token(lex.Name, "a2", 1))
	tokens(t, "a1 2b", token(lex.Name, "a1", 0), token(lex.Number, "2", 3), token(lex.Name, "b", 4))
	tokens(t, "0if", token(lex.Number, "0", 0), token(lex.Word, "if", 1))
}

func TestBlanksAndRemarks(t *testing.T) {
	for _, s := range []string{"", " ", "\t", "\n", "\r", " \r\n\t ", "//", "///", "// a # \x00 \xff ;", "//\n", "//\n//", "//\r;A", " // _\n\t// !\n"} {
		tokens(t, s)
		tokens(t, "a"+s, token(lex.Name, "a", 0))
	}
	tokens(t, "a//b", token(lex.Name, "a", 0))
	tokens(t, "a/ /b", token(lex.Name, "a", 0), token(lex.Sign, "/", 1), token(lex.Sign, "/", 3), token(lex.Name, "b", 4))
	tokens(t, "a//b\nc", token(lex.Name, "a", 0), token(lex.Name, "c", 5))
	tokens(t, "// \r a\nb", token(lex.Name, "b", 7))
	tokens(t, "1///2\n3", token(lex.Number, "1", 0), token(lex.Number, "3", 6))
}

func TestTooLong(t *testing.T) {
	name, digits := strings.Repeat("a", api.MaxName), strings.Repeat("7", api.MaxDigits)
	tokens(t, name, token(lex.Name, name, 0))
	tokens(t, digits, token(lex.Number, digits, 0))
	tokens(t, digits+name, token(lex.Number, digits, 0), token(lex.Name, name, len(digits)))
	tokens(t, strings.Repeat("0", 40), token(lex.Number, strings.Repeat("0", 40), 0))
	for _, more := range []string{"a", "0", "_", "if", strings.Repeat("b", 1000)} {
		fails(t, name+more, 0, api.ErrBig)
		fails(t, "x + "+name+more+" #", 4, api.ErrBig)
	}
	for _, more := range []string{"0", "9", strings.Repeat("1", 1000)} {
		fails(t, digits+more, 0, api.ErrBig)
		fails(t, "// "+digits+"1\n x"+digits+more, 46, api.ErrBig)
		fails(t, "-"+digits+more+"a", 1, api.ErrBig)
	}
	fails(t, strings.Repeat("0", 41), 0, api.ErrBig)
	fails(t, "fn"+strings.Repeat("_", 23), 0, api.ErrBig)
	tokens(t, "// "+name+name+digits+digits)
}

// TestNoToken: of all bytes, alone and behind others.
func TestNoToken(t *testing.T) {
	for c := range 256 {
		s := string([]byte{byte(c)})
		holds(t, s)
		holds(t, "a "+s)
		holds(t, s+"=")
		holds(t, s+s)
		if !strings.Contains(" \t\n\r(){},:=;+-*/%<>abcdefghijklmnopqrstuvwxyz0123456789", s) {
			fails(t, s, 0, api.ErrToken)
			fails(t, "1 + "+s, 4, api.ErrToken)
			if s != "!" {
				fails(t, "(("+s+"=", 2, api.ErrToken)
			}
		}
	}
	fails(t, "_a", 0, api.ErrToken)
	fails(t, "aB", 1, api.ErrToken)
	fails(t, "A", 0, api.ErrToken)
	fails(t, "a !", 2, api.ErrToken)
	fails(t, "a ! = b", 2, api.ErrToken)
	fails(t, "!", 0, api.ErrToken)
	fails(t, "x \u00e9", 2, api.ErrToken)
	fails(t, "1.5", 1, api.ErrToken)
	fails(t, "a && b", 2, api.ErrToken)
	fails(t, "\ufeffa", 0, api.ErrToken)
	fails(t, "\v", 0, api.ErrToken)
}

// TestTheFirstIsTold: of two tokens that may not be.
func TestTheFirstIsTold(t *testing.T) {
	long := strings.Repeat("n", 25)
	fails(t, "# "+long, 0, api.ErrToken)
	fails(t, long+" #", 0, api.ErrBig)
	fails(t, "a "+long+"#", 2, api.ErrBig)
	fails(t, "a @ #", 2, api.ErrToken)
	fails(t, strings.Repeat("1", 41)+" "+long, 0, api.ErrBig)
}

func TestTokens(t *testing.T) {
	source := rand.New(rand.NewSource(2))
	for range 20000 {
		holds(t, someText(source, 10))
		holds(t, someBytes(source, 12))
	}
}

// TestLongTexts: all that holds of short ones, one behind the other.
func TestLongTexts(t *testing.T) {
	source := rand.New(rand.NewSource(3))
	var all strings.Builder
	for all.Len() < 1<<16 {
		s := someText(source, 20)
		if _, _, e := wanted(s); e == api.OK {
			all.WriteString(s + "\n")
		}
	}
	holds(t, all.String())
	many := strings.Repeat("a1;", 1<<18)
	if l, _, e := lex.Tokens([]byte(many)); len(l) != 2<<18+1 || e != api.OK {
		t.Error("many tokens", len(l), e)
	}
	if n := len(itemsOf(many)); n != 1<<18 {
		t.Error("many items", n)
	}
	fails(t, strings.Repeat("a", 1<<20), 0, api.ErrBig)
}

func TestIsWord(t *testing.T) {
	for _, s := range words() {
		if !lex.IsWord(s) {
			t.Error("no word:", s)
		}
		for _, other := range []string{s + " ", " " + s, strings.ToUpper(s), s + s, s[:len(s)-1], s + "\x00"} {
			if lex.IsWord(other) != slices.Contains(words(), other) {
				t.Errorf("IsWord(%q)", other)
			}
		}
	}
	for _, s := range append(signs(), "", "a", "x1", "0", "fm", "while", "main", "w", "End") {
		if lex.IsWord(s) {
			t.Error("a word:", s)
		}
	}
}

func TestIsName(t *testing.T) {
	for _, s := range []string{"a", "z", "f1", "a_", "x__9", "vv", "fnx", "v1", "v_", "iff", strings.Repeat("a", 24), "a" + strings.Repeat("_", 23)} {
		if !lex.IsName(s) {
			t.Error("no name:", s)
		}
	}
	rest := []string{
		"", "1", "1a", "_", "_a", "A", "aB", "a b", " a", "a ", "a;", "a\n", "a//", "//a", "\u00e9", "a\u00e9", "a-b", "\x00", "a\x00", "a\xff", strings.Repeat("a", 25), strings.Repeat("a", 1<<16), "a" + strings.Repeat("0", 24),
	}
	for _, s := range slices.Concat(rest, words(), signs()) {
		if lex.IsName(s) {
			t.Errorf("a name: %q", s)
		}
	}
}

// TestNamesAndWordsAreTokens: IsName and IsWord say of a text what Tokens
// says, if it is one token.
func TestNamesAndWordsAreTokens(t *testing.T) {
	for _, s := range append(texts(), slices.Concat(words(), signs())...) {
		l, _, e := lex.Tokens([]byte(s))
		one := e == api.OK && len(l) == 2 && l[0].Text == s
		if got, want := lex.IsName(s), one && l[0].Kind == lex.Name; got != want {
			t.Errorf("IsName(%q) = %v", s, got)
		}
		if got, want := lex.IsWord(s), one && l[0].Kind == lex.Word; got != want {
			t.Errorf("IsWord(%q) = %v", s, got)
		}
	}
}
