package json_test

import (
	library "encoding/json"
	"errors"
	"strings"
	"testing"
	"unicode/utf8"

	"whetstone/api"
	"whetstone/json"
)

func TestExamples(t *testing.T) {
	v := array(number("1"), number("-0.5e3"))
	parses(t, "[1, -0.5e3]", v)
	prints(t, v, "[1,-0.5e3]")
	fails(t, "[01]", 2, api.ErrForm)
	fails(t, `{"a":1,"a":2}`, 7, api.ErrTwice)
	fails(t, `"\ud800"`, 1, api.ErrForm)
}

func TestParseKinds(t *testing.T) {
	for s, want := range map[string]json.Value{
		"null": null(), "false": {Kind: json.False}, "true": {Kind: json.True}, `""`: text(""), `"a"`: text("a"), "0": number("0"),
		"[]": array(), "[ ]": array(), "{}": object(), "{\t}": object(), " \t\n\r1 \t\n\r": number("1"), "[null]": array(null()), "[[],[ [] ]]": array(array(), array(array())),
		` { "a" : 1 , "b" : [ true , false ] } `:   object(keyed("a", number("1")), keyed("b", array(json.Value{Kind: json.True}, json.Value{Kind: json.False}))),
		`{"b":{"a":null},"a":""}`:                  object(keyed("b", object(keyed("a", null()))), keyed("a", text(""))),
		`{"":0," ":1}`:                             object(keyed("", number("0")), keyed(" ", number("1"))),
		`{"a":{"a":1},"A":[{"a":2},{"a":3}]}`:      object(keyed("a", object(keyed("a", number("1")))), keyed("A", array(object(keyed("a", number("2"))), object(keyed("a", number("3")))))),
		`["a",{"a":"a"},"a"]`:                      array(text("a"), object(keyed("a", text("a"))), text("a")),
		"\"\x7f \u20ac\U0001f600/\ufeff\u2028\"":   text("\x7f \u20ac\U0001f600/\ufeff\u2028"),
		`"\"\\\/\b\f\n\r\t"`:                       text("\"\\/\b\f\n\r\t"),
		`"\u0000\u001F\u007f\u00e9\u20AC\uFFFD"`:   text("\x00\x1f\x7f\u00e9\u20ac\ufffd"),
		`"\ud7ff\ue000\uD83D\uDE00\uDBFF\uDFFFx"`:  text("\ud7ff\ue000\U0001f600\U0010ffffx"),
		`"\ud800\udc00\ud800\udc00"`:               text("\U00010000\U00010000"),
		`"\\u0041\u005cn"`:                         text(`\u0041\n`),
		`{"\u0061":1,"\\u0061":2,"\u0041":3}`:      object(keyed("a", number("1")), keyed(`\u0061`, number("2")), keyed("A", number("3"))),
		"[0,-0,1.0,1E5,\n123456789012345678901]\n": array(number("0"), number("-0"), number("1.0"), number("1E5"), number("123456789012345678901")),
	} {
		parses(t, s, want)
	}
}

func TestParseNumbers(t *testing.T) {
	for _, s := range []string{"0", "-0", "1", "9", "10", "-19", "1234567890", "0.0", "0.5", "-1.25", "10.010", "0e0", "1e5", "1E5", "1e+5", "1E-5", "1e05", "1.5e10", "-0.0E-0", "99999999999999999999.5e999"} {
		parses(t, s, number(s))
		parses(t, " "+s+"\n", number(s))
		parses(t, "["+s+" ,"+s+"]", array(number(s), number(s)))
	}
}

// TestParseNumbersThatEnd: where a number goes on no further, at the text's
// end and within an array.
func TestParseNumbersThatEnd(t *testing.T) {
	for _, s := range []string{"-", "1.", "-0.", "1e", "1E", "1e+", "1e-", "1.5e", "0e", "0.1E+"} {
		fails(t, s, len(s), api.ErrEnds)
		for _, behind := range []string{"]", "x", " ", ".", "e", "\""} {
			fails(t, s+behind, len(s), api.ErrForm)
			fails(t, " "+s+behind, len(s)+1, api.ErrForm)
		}
	}
	for _, s := range []string{"+1", ".5", "e5", "N", "Infinity", "\u0661"} {
		fails(t, s, 0, api.ErrForm)
		fails(t, "["+s, 1, api.ErrForm)
		fails(t, "-"+s, 1, api.ErrForm)
	}
}

func TestParseBehindTheValue(t *testing.T) {
	for s, at := range map[string]int{
		"01": 1, "-01": 2, "00": 1, "1 2": 2, "1,": 1, "1.5.2": 3, "1e5e": 3, "1e5.": 3, "1x": 1, "1-": 1, "0x10": 1, "nulll": 4, "truefalse": 4, "null null": 5, "[]]": 2, "[] []": 3, "{}}": 2,
		`""""`: 2, `"a" "b"`: 4, " 1 \n ,": 5, "true:": 4, "1\x00": 1, "1\u00a0": 1, "{} \v": 3, "1 // no": 2, "0[": 1,
	} {
		fails(t, s, at, api.ErrMore)
	}
}

func TestParseEnds(t *testing.T) {
	for _, s := range []string{
		"", " ", "\r\n\t ", "n", "nu", "nul", "t", "tru", "f", "fals", `"`, `"a`, `"\`, `"\u`, `"\u1`, `"\u12`, `"\u123`, `"\u1234`, `"\n`,
		`"\ud83d`, `"\ud83d\`, `"\ud83d\u`, `"\ud83d\ude0`, `"\ud83d\u0`, "[", "[ ", "[1", "[1 ", "[1,", "[1, ", "[[", "[[]", "{", "{ ", `{"`, `{"a`, `{"a"`, `{"a" `, `{"a":`, `{"a": `, `{"a":1`, `{"a":1 `, `{"a":1,`, `{"a":1, `, `{"a":1,"b"`, `{"a":{}`, `[{"a":[`,
	} {
		fails(t, s, len(s), api.ErrEnds)
		fails(t, " "+s, len(s)+1, api.ErrEnds)
	}
}

func TestParseForm(t *testing.T) {
	for s, at := range map[string]int{
		"x": 0, "]": 0, "}": 0, ",": 0, ":": 0, "'a'": 0, "\x00": 0, "\v1": 0, "\u00a01": 0, "\ufeff1": 0, "Null": 0, "TRUE": 0, "/": 0, "\\": 0, "  x": 2, "undefined": 0,
		"nulx": 3, "nul ": 3, "nULL": 1, "trye": 2, "fal\"": 3, "fa lse": 2, "n]": 1,
		"\"a\nb\"": 2, "\"\x00\"": 1, "\"\x1f\"": 1, "\"\t\"": 1, "\"a\r": 2, "[\"\x08\"]": 2,
		`"\x"`: 2, `"\'"`: 2, `"\U0041"`: 2, `"\0"`: 2, `"\ "`: 2, `"\a\"`: 2, `"ab\v"`: 4, "\"\\\n\"": 2, "\"\\\u00e9\"": 2, `"\B"`: 2, `"\v`: 2,
		`"\u"`: 3, `"\uG000"`: 3, `"\u00g0"`: 5, `"\u000"`: 6, `"\u12 4"`: 5, `"\u+123"`: 3, `"\u:234"`: 3, `"\u/234"`: 3, "\"\\u`234\"": 3, `"\u@234"`: 3, `"\u123\"`: 6, `"\u-123"`: 3, `"\u{61}"`: 3,
		"[,]": 1, "[1,]": 3, "[1,,2]": 3, "[1 2]": 3, "[1:2]": 2, "[1}": 2, "[}": 1, "[:]": 1, "[1, ]": 4, "[x]": 1, "[1x]": 2, "[[1}]": 3, "[-]": 2, "[01]": 2, "[1.]": 3, "[\"a\"\"b\"]": 4,
		"{,}": 1, "{1:2}": 1, "{a:1}": 1, "{]": 1, "{:1}": 1, "{null:1}": 1, "{[]:1}": 1, `{"a"}`: 4, `{"a",1}`: 4, `{"a" 1}`: 5, `{"a"=1}`: 4, `{"a"::1}`: 5, `{"a":}`: 5, `{"a":,}`: 5, `{"a":1,}`: 7, `{"a":1;}`: 6, `{"a":1 "b":2}`: 7, `{"a":1,,}`: 7, `{"a":1]`: 6, `{"a":1,2}`: 7, `{"a":x}`: 5, `{"a\q":1}`: 4, `{'a':1}`: 1,
	} {
		fails(t, s, at, api.ErrForm)
	}
}

// TestParseHalves: letters by two numbers. What is wrong with a first half is
// told at it, whatever stands behind it, but not where the text ends or a
// second number isn't written as one.
func TestParseHalves(t *testing.T) {
	for _, half := range []string{`\ud800`, `\uD83D`, `\udbff`, `\uDBFF`} {
		for _, behind := range []string{`"`, "x\"", `\n"`, `\\"`, `\x"`, `\U`, `\u0041"`, `\ud800"`, `\udbff"`, `\ud83d\ude00"`, `\ue000"`, `\uffff"`, "\n\"", "\u20ac"} {
			fails(t, `"`+half+behind, 1, api.ErrForm)
			fails(t, `["ab`+half+behind, 4, api.ErrForm)
			fails(t, `"\ud83d\ude00`+half+behind, 13, api.ErrForm)
		}
		for _, c := range []string{"g", "\"", "\\", " ", "\n"} {
			fails(t, `"`+half+`\u`+c, 9, api.ErrForm)
			fails(t, `"`+half+`\ude0`+c, 12, api.ErrForm)
		}
	}
	for _, half := range []string{`\udc00`, `\uDE00`, `\udfff`} {
		for _, behind := range []string{`"`, "", "x", `\ud83d\ude00"`, `\ud83d"`, `\u`} {
			fails(t, `"`+half+behind, 1, api.ErrForm)
			fails(t, `"`+half+half+behind, 1, api.ErrForm)
			fails(t, `"\n\ud83d\ude00`+half+behind, 15, api.ErrForm)
		}
	}
}

func TestParseTwice(t *testing.T) {
	for s, at := range map[string]int{
		`{"a":1,"a":2}`: 7, `{"a":1, "a":2}`: 8, `{"a":1,"b":2,"a":3}`: 13, `{"":1,"":2}`: 6, `{"a":1,"\u0061":2}`: 7, `{"\u0061":1,"a":2}`: 12, `{"/":1,"\/":2}`: 7,
		"{\"\u20ac\":1,\"\\u20ac\":2}": 9, `[{"a":1},{"a":1,"a"`: 16, `{"a":1,"a"`: 7, `{"a":1,"a" x`: 7, `{"a":1,"a",`: 7, `{"a":{"b":1,"b":2}}`: 12, `{"a":{"a":1},"a":2}`: 13, `{"\ud83d\ude00":1,"😀":2}`: 18, `{"a":1,"a":x}`: 7,
	} {
		fails(t, s, at, api.ErrTwice)
	}
	fails(t, `{"a":1,"a`, 9, api.ErrEnds)
	fails(t, `{"a":1,"a\q"`, 10, api.ErrForm)
	fails(t, `{"a":x,"a":1}`, 5, api.ErrForm)
}

func TestParseDeep(t *testing.T) {
	parses(t, strings.Repeat("[", 64)+strings.Repeat("]", 64), nested(63, array()))
	parses(t, strings.Repeat("[", 64)+"1"+strings.Repeat("]", 64), nested(64, number("1")))
	inside := strings.Repeat(`{"k":`, 64)
	if v, _, e := json.Parse([]byte(inside + "null" + strings.Repeat("}", 64))); e != api.OK || v.Kind != json.Object {
		t.Error("64 objects in one another", e)
	}
	many := strings.Repeat("[", 63) + "[],{},[]" + strings.Repeat("]", 63)
	if _, _, e := json.Parse([]byte(many + " ")); e != api.OK {
		t.Error("many that aren't in one another", e)
	}
	for _, c := range []string{"[", "{", "[]", "{}", "[x", "{ 1", "[\""} {
		fails(t, strings.Repeat("[", 64)+c, 64, api.ErrDeep)
		fails(t, strings.Repeat(" [", 64)+" "+c, 129, api.ErrDeep)
		fails(t, inside+c, len(inside), api.ErrDeep)
		fails(t, strings.Repeat(`[{"k":`, 32)+c, 32*6, api.ErrDeep)
		fails(t, strings.Repeat("[", 62)+"[[],["+c, 67, api.ErrDeep)
	}
	fails(t, strings.Repeat("[", 64)+"][", 65, api.ErrForm)
	fails(t, strings.Repeat("[", 1<<20), 64, api.ErrDeep)
}

// TestParseUtf: bytes that are no UTF-8 are told ahead of all else, wherever
// they stand.
func TestParseUtf(t *testing.T) {
	for s, at := range map[string]int{
		"\xff": 0, "\"\xff\"": 1, "[1,\"\xed\xa0\x80\"]": 4, "x\xff": 1, "[01]\xc0\x80": 4, "1 2 3 \x80": 6, "{\"a\":1,\"a\":2}\xe2\x82": 13, "\"\u20ac\x82\"": 4, "\"\\ud800\xf5\"": 7, "\xe2\x82": 0,
	} {
		fails(t, s, at, api.ErrUtf)
	}
	fails(t, strings.Repeat("[", 70)+"\xff", 70, api.ErrUtf)
}

func TestParseWhatIsMade(t *testing.T) {
	m := newMaker(4)
	for range 4000 {
		s, want := m.value(4)
		parses(t, s, want)
	}
}

// TestParsePrefixes: a text that ends by a sign of its own ends too early
// wherever it is cut, but within a letter.
func TestParsePrefixes(t *testing.T) {
	m := newMaker(5)
	for range 600 {
		bare, _ := m.bare(3)
		s := m.blank() + "[" + bare + "]"
		for n := range len(s) {
			if utf8.ValidString(s[:n]) {
				fails(t, s[:n], n, api.ErrEnds)
				continue
			}
			start := n
			for !utf8.RuneStart(s[start]) || start == n {
				start--
			}
			fails(t, s[:n], start, api.ErrUtf)
		}
	}
}

// TestParseStopsAtTheFault: nothing behind the byte that goes wrong is read.
func TestParseStopsAtTheFault(t *testing.T) {
	m := newMaker(6)
	for _, s := range []string{"x", "[1,x", "nulx", "[1 2", "{1", `{"a":1,"a"`, "01", "1 2", `"\x`, `"\u00g`, `"\udc00`, `"\ud800x`, "\"a\n", "-x", "[1.x", "[] ]", `{"a" x`} {
		_, at, e := json.Parse([]byte(s))
		if e == api.OK || e == api.ErrEnds {
			t.Errorf("Parse(%q): %d", s, e)
		}
		for range 50 {
			behind, _ := m.value(2)
			fails(t, s+behind, at, e)
		}
	}
}

// wanted is what another library says of a text, as this chapter tells it.
func wanted(t *testing.T, s string) (int, api.Errno) {
	t.Helper()
	var raw library.RawMessage
	err := library.Unmarshal([]byte(s), &raw)
	if err == nil {
		return 0, api.OK
	}
	var syntax *library.SyntaxError
	if !errors.As(err, &syntax) {
		t.Fatalf("%q: the library answers %v", s, err)
	}
	switch {
	case strings.Contains(err.Error(), "unexpected end"):
		return len(s), api.ErrEnds
	case strings.Contains(err.Error(), "after top-level value"):
		return int(syntax.Offset) - 1, api.ErrMore
	}
	return int(syntax.Offset) - 1, api.ErrForm
}

// TestParseAgainstLibrary: of parts in any order, without numbers in escapes
// and without keys, of which the library says otherwise or nothing.
func TestParseAgainstLibrary(t *testing.T) {
	m := newMaker(7)
	count := map[api.Errno]int{}
	for range 60000 {
		var s string
		for range 1 + m.Intn(6) {
			s += m.one("[", "]", ",", "[", "]", ",", "{}", "{", "}", ":", `"`, `"a"`, `\n`, "1", "0", "-", ".", "e", "+", "null", "tru", "true", " ", "\n", "x", "1.5", "1e5", "[1,")
		}
		at, e := wanted(t, s)
		count[e]++
		v, gotAt, got := json.Parse([]byte(s))
		if gotAt != at || got != e || e != api.OK && !isNothing(v) {
			t.Fatalf("Parse(%q) = %d, %d, not %d, %d", s, gotAt, got, at, e)
		}
	}
	if len(count) != 4 || count[api.OK] < 1000 || count[api.ErrEnds] < 1000 || count[api.ErrMore] < 1000 {
		t.Error("the texts are too much alike:", count)
	}
}

func TestParseEndsAtAllBytes(t *testing.T) {
	m := newMaker(8)
	for range 20000 {
		b := make([]byte, m.Intn(12))
		for i := range b {
			b[i] = byte(m.Intn(256))
			if m.Intn(3) > 0 {
				b[i] = m.one(`[]{},:"\u0daef1-`)[m.Intn(15)]
			}
		}
		v, at, e := json.Parse(b)
		if at < 0 || at > len(b) || e == api.OK && at != 0 || e != api.OK && !isNothing(v) {
			t.Fatalf("Parse(%q) = %v, %d, %d", b, v, at, e)
		}
		if e == api.ErrEnds && at != len(b) || e != api.OK && e != api.ErrEnds && at == len(b) {
			t.Fatalf("Parse(%q) tells %d at %d", b, e, at)
		}
	}
}
