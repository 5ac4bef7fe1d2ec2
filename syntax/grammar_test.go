package syntax_test

import (
	"slices"
	"strings"
	"testing"

	"whetstone/api"
	"whetstone/lex"
	"whetstone/syntax"
)

// grammar is the chapter's, a line for what a word in capitals may be. Tokens
// stand as they read; NAME and NUMBER are kinds of them.
const grammar = `
ITEM FN | pub FN | qual NAME ( NAMES ) = EXPR ;
FN fn NAME ( ) -> TYPE = EXPR ; | fn NAME ( PARAMS ) -> TYPE = EXPR ;
PARAMS PARAM | PARAMS , PARAM
PARAM NAME : TYPE
NAMES NAME | NAMES , NAME
TYPE BASE | BASE { EXPR }
BASE int | bool | arr NUMBER
EXPR let NAME = EXPR in EXPR | if EXPR then EXPR else EXPR | assert EXPR in EXPR | ANY
ANY ALL | ANY or ALL
ALL PAIR | ALL and PAIR
PAIR SUM | SUM = SUM | SUM != SUM | SUM < SUM | SUM <= SUM | SUM > SUM | SUM >= SUM
SUM PRODUCT | SUM + PRODUCT | SUM - PRODUCT
PRODUCT PART | PRODUCT * PART | PRODUCT / PART | PRODUCT % PART
PART - PART | not PART | ATOM
ATOM NUMBER | true | false | v | NAME | NAME ( ) | NAME ( ARGS ) | ( EXPR ) | get ( EXPR , EXPR ) | set ( EXPR , EXPR , EXPR ) | len ( EXPR ) | fill ( NUMBER , EXPR )
ARGS EXPR | ARGS , EXPR
`

// rule is one way to write what stands left.
type rule struct {
	left  string
	right []string
}

func rules() []rule {
	var l []rule
	for line := range strings.Lines(strings.TrimSpace(grammar)) {
		left, ways, _ := strings.Cut(line, " ")
		for way := range strings.SplitSeq(ways, "|") {
			l = append(l, rule{left, strings.Fields(way)})
		}
	}
	return l
}

// state is a rule of which so many words are read, since a token.
type state struct {
	rule, read, since int
}

// recognizer finds, for any grammar, the first token with which nothing that
// was read so far can go on. It is no parser: it keeps all rules that may be
// meant.
type recognizer struct {
	rules []rule
	sets  [][]state
}

func (r *recognizer) add(set int, s state) {
	if !slices.Contains(r.sets[set], s) {
		r.sets[set] = append(r.sets[set], s)
	}
}

func (r *recognizer) begin(set int, left string) {
	for i, rule := range r.rules {
		if rule.left == left {
			r.add(set, state{i, 0, set})
		}
	}
}

// next: the word behind what is read; none, if all is.
func (r *recognizer) next(s state) string {
	if right := r.rules[s.rule].right; s.read < len(right) {
		return right[s.read]
	}
	return ""
}

// close adds what follows from a set's states.
func (r *recognizer) close(set int) {
	for i := 0; i < len(r.sets[set]); i++ {
		s := r.sets[set][i]
		word := r.next(s)
		if word != "" {
			r.begin(set, word)
			continue
		}
		for _, outer := range slices.Clone(r.sets[s.since]) {
			if r.next(outer) == r.rules[s.rule].left {
				outer.read++
				r.add(set, outer)
			}
		}
	}
}

func fits(word string, token lex.Token) bool {
	switch word {
	case "NAME":
		return token.Kind == lex.Name
	case "NUMBER":
		return token.Kind == lex.Number
	}
	return word == token.Text
}

// run: how many tokens an item can begin with; whole: are they one?
func (r *recognizer) run(tokens []lex.Token) (count int, whole bool) {
	r.sets = [][]state{nil}
	r.begin(0, "ITEM")
	for i, token := range tokens {
		r.close(i)
		r.sets = append(r.sets, nil)
		for _, s := range r.sets[i] {
			if fits(r.next(s), token) {
				s.read++
				r.add(i+1, s)
			}
		}
		if len(r.sets[i+1]) == 0 {
			return i, i > 0 && tokens[i-1].Text == ";"
		}
	}
	return len(tokens), len(tokens) > 0 && tokens[len(tokens)-1].Text == ";"
}

// mutated is a list of tokens with some of them dropped, put, changed or
// swapped, the last one more often than others.
func (m *maker) mutated(l []string) []string {
	l = slices.Clone(l)
	vocabulary := strings.Fields("fn pub qual let in if then else assert true false int bool arr get set len fill not and or v -> <= >= != ( ) { } , : = ; + - * / % < > a b 7 ( ) , ;")
	for range 1 + m.Intn(2) {
		at := m.Intn(len(l))
		if m.Intn(8) == 0 {
			at = len(l) - 1
		}
		word := vocabulary[m.Intn(len(vocabulary))]
		switch m.Intn(4) {
		case 0:
			l = slices.Delete(l, at, at+1)
		case 1:
			l = slices.Insert(l, at, word)
		case 2:
			l[at] = word
		case 3:
			other := m.Intn(len(l))
			l[at], l[other] = l[other], l[at]
		}
	}
	return l
}

// plainNumbers: numbers that are right wherever they stand.
func plainNumbers(l []string) []string {
	l = slices.Clone(l)
	for i, s := range l {
		if '0' <= s[0] && s[0] <= '9' {
			l[i] = "7"
		}
	}
	return l
}

// isJust: is the comma at a place one behind all arguments of get, set or len,
// where their bracket could stand? Of that the chapter says more than the
// grammar.
func (r *recognizer) isJust(tokens []lex.Token, at int) bool {
	bracketed := append(slices.Clone(tokens[:at]), lex.Token{Kind: lex.Sign, Text: ")"})
	if count, _ := r.run(bracketed); tokens[at].Text != "," || count == at {
		return false
	}
	open := 0
	for i := at - 1; i > 0; i-- {
		switch tokens[i].Text {
		case ")":
			open++
		case "(":
			open--
		}
		if open < 0 {
			return slices.Contains([]string{"get", "set", "len"}, tokens[i-1].Text)
		}
	}
	return false
}

// TestAgainstGrammar: what is an item, and which token is the first that may
// not stand there, is what any reader of the grammar must find.
func TestAgainstGrammar(t *testing.T) {
	m := newMaker(7)
	m.most = 3 // so that no limit is near
	r := &recognizer{rules: rules()}
	count := map[api.Errno]int{}
	for i := range 10000 {
		m.item(6)
		l := plainNumbers(m.tokens)
		if i%10 > 0 {
			l = m.mutated(l)
		}
		s, _ := m.laid(l)
		tokens, _, _ := lex.Tokens([]byte(s))
		good, whole := r.run(tokens[:len(tokens)-1])
		want, at := api.ErrExpect, tokens[good].Span
		switch {
		case whole && good == len(l):
			want, at = api.OK, api.Span{}
		case whole:
			want = api.ErrMore
		case good == len(l):
			want = api.ErrEnds
		}
		_, gotAt, got := syntax.Parse([]byte(s))
		if want == api.ErrExpect && r.isJust(tokens, good) {
			if got == api.OK || got == api.ErrMore || gotAt.From <= at.From {
				t.Fatalf("Parse(%q): %v, %d", s, gotAt, got)
			}
			continue
		}
		count[want]++
		if gotAt != at || got != want {
			t.Fatalf("Parse(%q): %v, %d, not %v, %d", s, gotAt, got, at, want)
		}
	}
	if count[api.OK] < 1000 || count[api.ErrExpect] < 1000 || count[api.ErrMore] < 20 || count[api.ErrEnds] < 20 {
		t.Error("the texts are too much alike:", count)
	}
}
