package json

import (
	"strings"

	"whetstone/api"
	"whetstone/utf"
)

const (
	blanks = " \t\n\r"

	// An escape's letters, and the bytes that they stand for. The last one is
	// read alone: it is never written so.
	escapeLetters = `"\bfnrt/`
	escapedBytes  = "\"\\\b\f\n\r\t/"

	hexDigits   = "0123456789abcdef"
	upperDigits = "ABCDEF" // the last of them, written otherwise

	firstPlain = 32 // bytes below it stand in a string by escapes alone

	// The halves of a letter that is written by two numbers.
	firstHigh, lastHigh = 0xD800, 0xDBFF
	firstLow, lastLow   = 0xDC00, 0xDFFF
	firstOfTwo          = 0x10000
)

// reader is a text, how far it is read, and how many arrays and objects are
// open there.
type reader struct {
	text []byte
	at   int
	deep int
}

// Parse: the value that a text writes; else where it goes wrong.
func Parse(b []byte) (v Value, at int, e api.Errno) {
	if at, e := utf.Valid(b); e != api.OK {
		return Value{}, at, e
	}
	defer func() {
		if x := recover(); x != nil {
			f := caught(x)
			v, at, e = Value{}, f.at, f.e
		}
	}()
	r := &reader{text: b}
	v = r.value()
	r.skipBlanks()
	if r.at < len(b) {
		panic(fault{r.at, api.ErrMore})
	}
	return v, 0, api.OK
}

// wrong gives up at a byte that may not stand there, or at the text's end.
func (r *reader) wrong(at int) {
	if at == len(r.text) {
		panic(fault{at, api.ErrEnds})
	}
	panic(fault{at, api.ErrForm})
}

// next: the byte that must be there, unread.
func (r *reader) next() byte {
	if r.at == len(r.text) {
		r.wrong(r.at)
	}
	return r.text[r.at]
}

func (r *reader) skipBlanks() {
	for r.at < len(r.text) && strings.IndexByte(blanks, r.text[r.at]) >= 0 {
		r.at++
	}
}

// take reads a byte that must be there.
func (r *reader) take(c byte) {
	if r.next() != c {
		r.wrong(r.at)
	}
	r.at++
}

// takes reads a byte, if it is there.
func (r *reader) takes(c byte) bool {
	if r.next() != c {
		return false
	}
	r.at++
	return true
}

func (r *reader) value() Value {
	r.skipBlanks()
	switch r.next() {
	case 'n':
		return r.word("null", Null)
	case 'f':
		return r.word("false", False)
	case 't':
		return r.word("true", True)
	case '"':
		return Value{Kind: String, Text: r.quoted()}
	case '[':
		return r.nested(r.array)
	case '{':
		return r.nested(r.object)
	}
	return r.number()
}

func (r *reader) word(w string, kind int) Value {
	for i := range len(w) {
		r.take(w[i])
	}
	return Value{Kind: kind}
}

func (r *reader) number() Value {
	end, ok := numberEnd(r.text, r.at)
	if !ok {
		r.wrong(end)
	}
	from := r.at
	r.at = end
	return Value{Kind: Number, Text: string(r.text[from:end])}
}

// nested reads an array or an object, at its first sign.
func (r *reader) nested(read func() Value) Value {
	if r.deep == api.MaxJSON {
		panic(fault{r.at, api.ErrDeep})
	}
	r.at++
	r.deep++
	v := read()
	r.deep--
	return v
}

// ended: is there the sign that ends an array or an object? Else there must
// be the one that parts, unless it is ahead of the first part.
func (r *reader) ended(sign byte, first bool) bool {
	r.skipBlanks()
	if r.takes(sign) {
		return true
	}
	if !first {
		r.take(',')
		r.skipBlanks()
	}
	return false
}

func (r *reader) array() Value {
	v := Value{Kind: Array}
	for !r.ended(']', len(v.List) == 0) {
		v.List = append(v.List, r.value())
	}
	return v
}

func (r *reader) object() Value {
	v := Value{Kind: Object}
	seen := map[string]struct{}{}
	for !r.ended('}', len(v.List) == 0) {
		v.Keys = append(v.Keys, r.key(seen))
		r.skipBlanks()
		r.take(':')
		v.List = append(v.List, r.value())
	}
	return v
}

// key reads a key, that must not be among those seen, and adds it to them.
func (r *reader) key(seen map[string]struct{}) string {
	from := r.at
	key := r.quoted()
	if _, twice := seen[key]; twice {
		panic(fault{from, api.ErrTwice})
	}
	seen[key] = struct{}{}
	return key
}

func (r *reader) quoted() string {
	r.take('"')
	var out []byte
	for !r.takes('"') {
		c := r.next()
		switch {
		case c == '\\':
			out = r.escape(out)
		case c < firstPlain:
			r.wrong(r.at)
		default:
			out = append(out, c)
			r.at++
		}
	}
	return string(out)
}

// escape reads an escape, and adds what it stands for.
func (r *reader) escape(out []byte) []byte {
	from := r.at
	r.at++
	if r.takes('u') {
		return r.byNumber(out, from)
	}
	i := strings.IndexByte(escapeLetters, r.next())
	if i < 0 {
		r.wrong(r.at)
	}
	r.at++
	return append(out, escapedBytes[i])
}

// byNumber reads the number of an escape that began at from, and a second
// escape if that tells half a letter, and adds the letter.
func (r *reader) byNumber(out []byte, from int) []byte {
	letter := r.fourDigits()
	if firstHigh <= letter && letter <= lastHigh {
		letter = firstOfTwo + (letter-firstHigh)<<10 + r.lowHalf(from)
	}
	coded, e := utf.Encode(letter)
	if e != api.OK {
		r.wrong(from) // a second half alone
	}
	return append(out, coded...)
}

// lowHalf reads the escape that must follow on the one that began at from;
// it is that one's number that may not be, if another thing follows.
func (r *reader) lowHalf(from int) rune {
	if !r.takes('\\') || !r.takes('u') {
		r.wrong(from)
	}
	low := r.fourDigits()
	if low < firstLow || low > lastLow {
		r.wrong(from)
	}
	return low - firstLow
}

func (r *reader) fourDigits() rune {
	n := rune(0)
	for range 4 {
		n = n<<4 | r.hexDigit()
		r.at++
	}
	return n
}

// hexDigit: what the digit that must be there is worth, unread.
func (r *reader) hexDigit() rune {
	worth := strings.IndexByte(hexDigits+upperDigits, r.next())
	if worth < 0 {
		r.wrong(r.at)
	}
	if worth >= len(hexDigits) {
		worth -= len(upperDigits)
	}
	return rune(worth)
}
