package text_test

import (
	"math"
	"math/rand"
	"slices"
	"strings"
	"testing"
	"unicode/utf16"
	"unicode/utf8"

	"whetstone/api"
	"whetstone/text"
)

// model is a document as the chapter tells it, of a text that is UTF-8.
type model struct {
	version int
	text    string
	edits   []text.Edit
}

// lineOf is the line's letters, without its end, and where it begins; false:
// there is no such line.
func lineOf(s string, line int) (letters string, begin int, ok bool) {
	for range line {
		end := strings.IndexAny(s[begin:], "\r\n")
		if end < 0 {
			return "", 0, false
		}
		begin += end + 1
		if s[begin-1] == '\r' && strings.HasPrefix(s[begin:], "\n") {
			begin++
		}
	}
	letters = s[begin:]
	if end := strings.IndexAny(letters, "\r\n"); end >= 0 {
		letters = letters[:end]
	}
	return letters, begin, true
}

func (m model) offset(p api.Pos) int {
	if p.Line < 0 {
		return 0
	}
	letters, begin, ok := lineOf(m.text, min(p.Line, len(m.text)+1))
	if !ok {
		return len(m.text)
	}
	left := max(p.Unit, 0)
	for i, r := range letters {
		left -= utf16.RuneLen(r)
		if left < 0 {
			return begin + i
		}
	}
	return begin + len(letters)
}

func (m model) place(at int) api.Pos {
	at = min(max(at, 0), len(m.text))
	var p api.Pos
	for {
		if _, begin, ok := lineOf(m.text, p.Line+1); !ok || begin > at {
			break
		}
		p.Line++
	}
	letters, begin, _ := lineOf(m.text, p.Line)
	for i, r := range letters {
		if begin+i+utf8.RuneLen(r) <= at {
			p.Unit += utf16.RuneLen(r)
		}
	}
	return p
}

// apply is Apply, in the chapter's words.
func (m model) apply(version int, changes []text.Change) (model, api.Errno) {
	next := model{version: version, text: m.text}
	for _, c := range changes {
		if !utf8.ValidString(c.Text) {
			return m, api.ErrUtf
		}
		from, to := 0, len(next.text)
		if c.Ranged {
			from, to = next.offset(c.From), next.offset(c.To)
		}
		if to < from {
			to = from
		}
		s := next.text[:from] + c.Text + next.text[to:]
		if len(s) > api.MaxText {
			return m, api.ErrBig
		}
		next.text = s
		next.edits = append(next.edits, text.Edit{From: from, To: to, Size: len(c.Text)})
	}
	return next, api.OK
}

// moved is Moved of a span and of an edit by which none is turned round.
func moved(s api.Span, x text.Edit) (api.Span, bool) {
	by := x.Size - (x.To - x.From)
	ahead, behind := x.To <= s.From, x.From >= s.To
	if ahead && behind { // both are without a byte, at one place
		return s, true
	}
	if ahead {
		return api.Span{From: s.From + by, To: s.To + by}, true
	}
	if behind {
		return s, true
	}
	return api.Span{}, false
}

func (m model) holds(t *testing.T, d *text.Doc) {
	t.Helper()
	if d.Version != m.version {
		t.Fatalf("Version %d, not %d", d.Version, m.version)
	}
	if got := string(d.Bytes()); got != m.text {
		t.Fatalf("Bytes %q, not %q", short(got), short(m.text))
	}
	if got := d.Edits(); !slices.Equal(got, m.edits) {
		t.Fatalf("Edits %v, not %v", got, m.edits)
	}
}

// placesHold holds all positions of a short text against the document's.
func (m model) placesHold(t *testing.T, d *text.Doc) {
	t.Helper()
	for _, line := range around(strings.Count(m.text, "\n") + strings.Count(m.text, "\r") + 1) {
		for _, unit := range around(len(m.text)) {
			p := api.Pos{Line: line, Unit: unit}
			if got, want := d.Offset(p), m.offset(p); got != want {
				t.Fatalf("Offset(%v) of %q = %d, not %d", p, m.text, got, want)
			}
		}
	}
	for _, at := range around(len(m.text)) {
		if got, want := d.Place(at), m.place(at); got != want {
			t.Fatalf("Place(%d) of %q = %v, not %v", at, m.text, got, want)
		}
	}
}

// around counts from ahead of nothing to behind most, and tells what is far off.
func around(most int) []int {
	all := []int{math.MinInt, -1000, math.MaxInt}
	for i := -1; i <= most+2; i++ {
		all = append(all, i)
	}
	return all
}

func short(s string) string {
	if len(s) > 80 {
		return s[:40] + ".." + s[len(s)-40:]
	}
	return s
}

func opened(t *testing.T, version int, s string) *text.Doc {
	t.Helper()
	d, e := text.Open(version, s)
	if e != api.OK || d == nil {
		t.Fatalf("Open(%d, %q): %v, %v", version, short(s), d, e)
	}
	return d
}

func applied(t *testing.T, d *text.Doc, version int, changes ...text.Change) {
	t.Helper()
	if e := d.Apply(version, changes); e != api.OK {
		t.Fatalf("Apply(%d, %+v): %v", version, changes, e)
	}
}

func all(s string) text.Change {
	return text.Change{Text: s}
}

func ranged(fromLine, fromUnit, toLine, toUnit int, s string) text.Change {
	return text.Change{Ranged: true, From: api.Pos{Line: fromLine, Unit: fromUnit}, To: api.Pos{Line: toLine, Unit: toUnit}, Text: s}
}

// wellFormed are texts in UTF-8: letters of each count of bytes and of units,
// and ends of lines of each kind.
func wellFormed() []string {
	return []string{
		"", "a", "ab\ncd", "a\u20acb", "\x00\x7f\u0080\u07ff\u0800\ufffd\uffff\U00010000\U0010ffff",
		"\n", "\r", "\r\n", "\n\r", "\r\r\n", "a\r\nb\rc\n", "x\U0001f600\ny\U0001f600z\r\n\U0001f600", "\u2028\u0085\v\f", "\ufeffa",
	}
}

// broken are texts that aren't UTF-8.
func broken() []string {
	return []string{
		"\x80", "\xff", "\xc0\x80", "\xe2\x82", "a\xe2\x82", "\x82\xac", "\xed\xa0\x80", "\xf0\x9f\x98", "\xf4\x90\x80\x80", "\xe0\x80\x80",
		"ok\n\xff\n", "\u20ac\xac", strings.Repeat("a", 5000) + "\xc2",
	}
}

func someText(source *rand.Rand, most int) string {
	parts := []string{"a", "b", "c", "\n", "\r", "\r\n", "\u00e9", "\u20ac", "\U0001f600"}
	var s strings.Builder
	for range source.Intn(most + 1) {
		s.WriteString(parts[source.Intn(len(parts))])
	}
	return s.String()
}

func somePos(source *rand.Rand) api.Pos {
	return api.Pos{Line: source.Intn(7) - 1, Unit: source.Intn(9) - 1}
}

// someChanges are mostly of ranges, some of them without a letter or with
// their To ahead.
func someChanges(source *rand.Rand, most int) []text.Change {
	var l []text.Change
	for range source.Intn(most + 1) {
		c := text.Change{Ranged: source.Intn(8) > 0, From: somePos(source), To: somePos(source), Text: someText(source, 6)}
		if source.Intn(3) == 0 {
			c.To = c.From
		}
		l = append(l, c)
	}
	return l
}
