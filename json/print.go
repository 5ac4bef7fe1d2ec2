package json

import (
	"strings"

	"whetstone/api"
	"whetstone/utf"
)

// writer is the text as far as it is written, and how many arrays and objects
// are open there.
type writer struct {
	text []byte
	deep int
}

// Print: a value's text.
func Print(v Value) (text []byte, e api.Errno) {
	defer func() {
		if x := recover(); x != nil {
			text, e = nil, caught(x).e
		}
	}()
	w := &writer{}
	w.value(v)
	return w.text, api.OK
}

// need gives up where something isn't so.
func need(so bool, e api.Errno) {
	if !so {
		panic(fault{e: e})
	}
}

func (w *writer) add(s string) {
	w.text = append(w.text, s...)
}

func (w *writer) value(v Value) {
	switch v.Kind {
	case Null:
		w.add("null")
	case False:
		w.add("false")
	case True:
		w.add("true")
	case Number:
		need(isNumber(v.Text), api.ErrForm)
		w.add(v.Text)
	case String:
		w.quoted(v.Text)
	case Array:
		w.nested('[', ']', len(v.List), func(i int) { w.value(v.List[i]) })
	case Object:
		w.object(v)
	default:
		need(false, api.ErrForm)
	}
}

// nested writes an array or an object, part by part.
func (w *writer) nested(open, end byte, count int, part func(i int)) {
	need(w.deep < api.MaxJSON, api.ErrDeep)
	w.deep++
	w.text = append(w.text, open)
	for i := range count {
		if i > 0 {
			w.add(",")
		}
		part(i)
	}
	w.text = append(w.text, end)
	w.deep--
}

func (w *writer) object(v Value) {
	need(len(v.Keys) == len(v.List), api.ErrForm)
	seen := map[string]struct{}{}
	w.nested('{', '}', len(v.List), func(i int) {
		w.quoted(v.Keys[i])
		_, twice := seen[v.Keys[i]]
		need(!twice, api.ErrTwice)
		seen[v.Keys[i]] = struct{}{}
		w.add(":")
		w.value(v.List[i])
	})
}

func (w *writer) quoted(s string) {
	_, e := utf.Valid([]byte(s))
	need(e == api.OK, e)
	w.add(`"`)
	for i := range len(s) {
		w.byteOf(s[i])
	}
	w.add(`"`)
}

// byteOf writes a byte of a string, by an escape where it may not stand itself.
func (w *writer) byteOf(c byte) {
	i := strings.IndexByte(escapedBytes, c)
	switch {
	case i >= 0 && c != '/':
		w.text = append(w.text, '\\', escapeLetters[i])
	case c < firstPlain:
		w.add(`\u00`)
		w.text = append(w.text, hexDigits[c>>4], hexDigits[c&15])
	default:
		w.text = append(w.text, c)
	}
}
