package syntax

import (
	"strconv"

	"whetstone/api"
	"whetstone/lex"
)

// reader is an item's tokens, how many of them are read, and how many
// expressions and parts are open there.
type reader struct {
	tokens []lex.Token
	at     int
	deep   int
}

// next: the token that stands there, unread. Behind the others it is End,
// which is never read.
func (r *reader) next() lex.Token {
	return r.tokens[r.at]
}

// wrong gives up at the next token, where something else must stand.
func (r *reader) wrong() {
	t := r.next()
	if t.Kind == lex.End {
		panic(fault{t.Span, api.ErrEnds})
	}
	panic(fault{t.Span, api.ErrExpect})
}

// takes reads a word or a sign, if it is there.
func (r *reader) takes(text string) bool {
	if r.next().Text != text {
		return false
	}
	r.at++
	return true
}

// take reads a word or a sign that must be there.
func (r *reader) take(text string) {
	if !r.takes(text) {
		r.wrong()
	}
}

// takeKind reads a token of a kind that must be there.
func (r *reader) takeKind(kind int) lex.Token {
	t := r.next()
	if t.Kind != kind {
		r.wrong()
	}
	r.at++
	return t
}

// since: the bytes from a token's first on, up to the end of the last token
// that was read.
func (r *reader) since(first lex.Token) api.Span {
	return api.Span{From: first.Span.From, To: r.tokens[r.at-1].Span.To}
}

// list reads parts with commas between them, one at least, and the bracket
// behind them.
func (r *reader) list(part func()) {
	part()
	for r.takes(",") {
		part()
	}
	r.take(")")
}

// noughtsAhead: is it the text of a number that has another text, too?
func noughtsAhead(digits string) bool {
	return len(digits) > 1 && digits[0] == '0'
}

// length reads how many places an array has.
func (r *reader) length() int {
	t := r.takeKind(lex.Number)
	n, err := strconv.Atoi(t.Text)
	if err != nil || n > api.MaxArray || noughtsAhead(t.Text) {
		panic(fault{t.Span, api.ErrBig})
	}
	return n
}
