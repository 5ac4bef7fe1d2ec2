package lex

import (
	"bytes"
	"iter"
	"strings"

	"whetstone/api"
)

// Kinds of pieces that are no tokens.
const (
	blanks = -1
	remark = -2
	wrong  = -3 // a byte with which no token begins
)

const (
	blankBytes  = " \t\n\r"
	remarkBegin = "//"
	oneByteSign = "(){},:=;+-*/%<>"
)

// pieces goes through all of a text, a piece behind the other: tokens of any
// length, and what stands between them. It reads the text itself, without a
// copy: for calls that are done with it when they answer.
func pieces(b []byte) iter.Seq2[int, api.Span] {
	return func(yield func(int, api.Span) bool) {
		for from := 0; from < len(b); {
			kind, size := firstPiece(b[from:])
			if !yield(kind, api.Span{From: from, To: from + size}) {
				return
			}
			from += size
		}
	}
}

// firstPiece: the piece with which a text that isn't empty begins, and how
// many bytes it has.
func firstPiece(b []byte) (kind, size int) {
	switch {
	case isBlank(b[0]):
		return blanks, runOf(b, isBlank)
	case bytes.HasPrefix(b, []byte(remarkBegin)):
		return remark, runOf(b, inLine)
	case isLetter(b[0]):
		size = runOf(b, inName)
		if IsWord(string(b[:size])) {
			return Word, size
		}
		return Name, size
	case isDigit(b[0]):
		return Number, runOf(b, isDigit)
	}
	if size = signSize(b); size > 0 {
		return Sign, size
	}
	return wrong, 1
}

// signSize: how many bytes the sign has with which a text begins; 0: none does.
func signSize(b []byte) int {
	if len(b) >= 2 {
		switch string(b[:2]) {
		case "->", "<=", ">=", "!=":
			return 2
		}
	}
	if strings.IndexByte(oneByteSign, b[0]) >= 0 {
		return 1
	}
	return 0
}

// runOf: how many bytes, from the first on, are of a kind.
func runOf(b []byte, of func(c byte) bool) int {
	for i, c := range b {
		if !of(c) {
			return i
		}
	}
	return len(b)
}

func isBlank(c byte) bool  { return strings.IndexByte(blankBytes, c) >= 0 }
func inLine(c byte) bool   { return c != '\n' }
func isLetter(c byte) bool { return 'a' <= c && c <= 'z' }
func isDigit(c byte) bool  { return '0' <= c && c <= '9' }
func inName(c byte) bool   { return isLetter(c) || isDigit(c) || c == '_' }

func isToken(kind int) bool { return kind > End }

// fault: what is wrong with a piece of so many bytes.
func fault(kind, size int) api.Errno {
	switch {
	case kind == wrong:
		return api.ErrToken
	case kind == Number && size > api.MaxDigits:
		return api.ErrBig
	case kind == Name && size > api.MaxName: // no word is so long
		return api.ErrBig
	}
	return api.OK
}
