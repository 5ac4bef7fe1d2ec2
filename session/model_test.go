package session_test

import (
	"bytes"
	"encoding/json"
	"fmt"
	"regexp"
	"slices"
	"strings"
	"unicode/utf16"
	"unicode/utf8"

	"whetstone/api"
	"whetstone/check"
	"whetstone/engine"
)

// model is a server as the chapter tells it, by another library's values. Of a text it
// asks layer 19, which knows no history.
type model struct {
	stand string // "" (asleep), awake, closing, gone
	docs  []*page
	stats engine.Stats
}

// page is a document that is open. Its engine is asked for what it keeps alone.
type page struct {
	uri     string
	version int
	text    string
	engine  *engine.Engine
}

type values = map[string]any

// hears: what is sent back for a body; "": nothing.
func (m *model) hears(body string) string {
	if m.stand == "gone" {
		return ""
	}
	v, ok := parsed(body)
	if !ok {
		return fault("null", -32700)
	}
	o, _ := v.(values)
	id, hasID := o["id"]
	if hasID && idText(id) == "" {
		return fault("null", -32600)
	}
	told := "null"
	if hasID {
		told = idText(id)
	}
	method, named := o["method"]
	params, given := o["params"]
	_, isResult := o["result"]
	_, isError := o["error"]
	switch {
	case o == nil || o["jsonrpc"] != "2.0":
		return fault(told, -32600)
	case !named && hasID && (isResult || isError):
		return ""
	case !isString(method) || given && !isList(params) && !isObject(params):
		return fault(told, -32600)
	case hasID:
		return m.asked(told, method.(string), params)
	}
	return m.told(method.(string), params)
}

func (m *model) asked(id, method string, params any) string {
	switch {
	case m.stand == "" && method != "initialize":
		return fault(id, -32002)
	case m.stand == "closing" || m.stand == "awake" && method == "initialize":
		return fault(id, -32600)
	case method == "initialize":
		m.stand = "awake"
		return result(id, capabilities)
	case method == "shutdown":
		m.stand = "closing"
		return result(id, "null")
	case method != "textDocument/hover":
		return fault(id, -32601)
	}
	uri, named := at(params, "textDocument", "uri").(string)
	p, placed := posOf(at(params, "position"))
	if !named || !placed {
		return fault(id, -32602)
	}
	d := m.find(uri)
	if d == nil {
		return result(id, "null")
	}
	b := offset(d.text, p)
	for _, g := range check.Check([]byte(d.text)).Sigs {
		if g.At.From <= b && b <= g.At.To {
			return result(id, hovered(g.Text, spanBounds(d.text, g.At)))
		}
	}
	return result(id, "null")
}

func (m *model) told(method string, params any) string {
	if method == "exit" {
		m.stand = "gone"
	}
	if m.stand != "awake" {
		return ""
	}
	uri, named := at(params, "textDocument", "uri").(string)
	version, counted := whole9(at(params, "textDocument", "version"))
	text, written := at(params, "textDocument", "text").(string)
	d := m.find(uri)
	switch {
	case !named:
	case method == "textDocument/didClose" && d != nil:
		m.docs = slices.DeleteFunc(m.docs, func(p *page) bool { return p == d })
		return cleared(uri)
	case method == "textDocument/didOpen" && counted && written && len(text) <= api.MaxText && (d != nil || len(m.docs) < api.MaxDocs):
		if d == nil {
			d = &page{uri: uri, engine: engine.New()}
			m.docs = append(m.docs, d)
		}
		return m.published(d, version, text)
	case method == "textDocument/didChange" && counted && d != nil:
		if text, ok := changed(d.text, at(params, "contentChanges")); ok {
			return m.published(d, version, text)
		}
	}
	return ""
}

func (m *model) published(d *page, version int, text string) string {
	d.version, d.text = version, text
	d.engine.Update([]byte(text))
	m.stats = d.engine.Stats()
	var l []string
	for _, x := range check.Check([]byte(text)).Diags {
		l = append(l, diag(spanBounds(text, x.Span), x.Code, x.Text))
	}
	return published(d.uri, version, l...)
}

func (m *model) find(uri string) *page {
	for _, d := range m.docs {
		if d.uri == uri {
			return d
		}
	}
	return nil
}

// changed: a text behind changes; false: one of them isn't as it must be, or there would
// be too many bytes.
func changed(s string, changes any) (string, bool) {
	l, ok := changes.([]any)
	for _, c := range l {
		put, written := at(c, "text").(string)
		from, to := 0, len(s)
		if o, _ := c.(values); isObject(c) && o["range"] != nil {
			one, isOne := posOf(at(o, "range", "start"))
			other, isOther := posOf(at(o, "range", "end"))
			from, to = offset(s, one), offset(s, other)
			written = written && isOne && isOther
		} else if _, there := o["range"]; there {
			written = false
		}
		s = s[:from] + put + s[max(from, to):]
		ok = ok && written && len(s) <= api.MaxText
		if !ok {
			break
		}
	}
	return s, ok
}

// Positions, by all lines of a text.

var lineEnd = regexp.MustCompile(`\r\n|\r|\n`)

// rows: where the letters of each line begin and end.
func rows(s string) []api.Span {
	var l []api.Span
	begin := 0
	for _, x := range lineEnd.FindAllStringIndex(s, -1) {
		l = append(l, api.Span{From: begin, To: x[0]})
		begin = x[1]
	}
	return append(l, api.Span{From: begin, To: len(s)})
}

func offset(s string, p api.Pos) int {
	l := rows(s)
	if p.Line < 0 {
		return 0
	}
	if p.Line >= len(l) {
		return len(s)
	}
	row := l[p.Line]
	for i, r := range s[row.From:row.To] {
		if p.Unit -= utf16.RuneLen(r); p.Unit < 0 {
			return row.From + i
		}
	}
	return row.To
}

func place(s string, at int) string {
	line, unit := 0, 0
	for i, row := range rows(s) {
		if row.From <= at {
			line = i
		}
	}
	row := rows(s)[line]
	for i, r := range s[row.From:row.To] {
		if row.From+i+utf8.RuneLen(r) <= at {
			unit += utf16.RuneLen(r)
		}
	}
	return position(line, unit)
}

func spanBounds(s string, x api.Span) string {
	return `{"start":` + place(s, x.From) + `,"end":` + place(s, x.To) + `}`
}

// Values, as encoding/json has them, with numbers as they are written.

var wholeNumber = regexp.MustCompile(`^(0|-?[1-9][0-9]{0,8})$`)

func whole9(v any) (int, bool) {
	n, ok := v.(json.Number)
	if !ok || !wholeNumber.MatchString(string(n)) {
		return 0, false
	}
	i, _ := n.Int64()
	return int(i), true
}

func posOf(v any) (api.Pos, bool) {
	line, ok := whole9(at(v, "line"))
	unit, also := whole9(at(v, "character"))
	return api.Pos{Line: line, Unit: unit}, ok && also
}

// at goes down objects by keys; nil: there is nothing.
func at(v any, keys ...string) any {
	for _, k := range keys {
		o, _ := v.(values)
		v = o[k]
	}
	return v
}

func isString(v any) bool { _, ok := v.(string); return ok }

func isObject(v any) bool { _, ok := v.(values); return ok }

func isList(v any) bool { _, ok := v.([]any); return ok }

func idText(v any) string {
	if s, ok := v.(string); ok {
		return quoted(s)
	}
	if n, ok := whole9(v); ok {
		return fmt.Sprint(n)
	}
	return ""
}

// parsed: a body's value. Of what that library takes and the chapter doesn't, keys twice
// and depth are looked for.
func parsed(body string) (any, bool) {
	if !utf8.ValidString(body) || !json.Valid([]byte(body)) || deepest(body) > api.MaxJSON || strings.Contains(body, `\ud`) {
		return nil, false
	}
	d := json.NewDecoder(bytes.NewReader([]byte(body)))
	d.UseNumber()
	return value(d)
}

func value(d *json.Decoder) (any, bool) {
	t, _ := d.Token()
	switch t {
	case json.Delim('['):
		l, ok := []any{}, true
		for d.More() {
			v, one := value(d)
			l, ok = append(l, v), ok && one
		}
		d.Token()
		return l, ok
	case json.Delim('{'):
		o, ok := values{}, true
		for d.More() {
			key, _ := d.Token()
			_, twice := o[key.(string)]
			v, one := value(d)
			o[key.(string)] = v
			ok = ok && one && !twice
		}
		d.Token()
		return o, ok
	}
	return t, true
}

// deepest: how many arrays and objects stand in one another.
func deepest(body string) int {
	most, deep := 0, 0
	d := json.NewDecoder(strings.NewReader(body))
	for {
		t, err := d.Token()
		if err != nil {
			return most
		}
		switch t {
		case json.Delim('['), json.Delim('{'):
			deep++
		case json.Delim(']'), json.Delim('}'):
			deep--
		}
		most = max(most, deep)
	}
}
