package json_test

import (
	library "encoding/json"
	"math"
	"strings"
	"testing"

	"whetstone/api"
	"whetstone/json"
)

func TestPrint(t *testing.T) {
	for want, v := range map[string]json.Value{
		"null": null(), "false": {Kind: json.False}, "true": {Kind: json.True}, "-1.50E+03": number("-1.50E+03"), `""`: text(""), "[]": array(), "{}": object(),
		"[1,[],{},null]":        array(number("1"), array(), object(), null()),
		`{"b":1,"a":[2]}`:       object(keyed("b", number("1")), keyed("a", array(number("2")))),
		`{"\n":"\n","":""}`:     object(keyed("\n", text("\n")), keyed("", text(""))),
		`{"a":{"a":{"a":"a"}}}`: object(keyed("a", object(keyed("a", object(keyed("a", text("a"))))))),
		`"\"\\/\b\f\n\r\t"`:     text("\"\\/\b\f\n\r\t"),
		"\"\x7f\u00e9\u20ac\u2028\ufffd\U0001f600<>&'\"": text("\x7f\u00e9\u20ac\u2028\ufffd\U0001f600<>&'"),
	} {
		prints(t, v, want)
	}
}

// TestPrintBytes: each letter of one byte, by itself or by its escape.
func TestPrintBytes(t *testing.T) {
	short := map[byte]string{8: `\b`, 12: `\f`, 10: `\n`, 13: `\r`, 9: `\t`, '"': `\"`, '\\': `\\`}
	const digits = "0123456789abcdef"
	for c := range byte(128) {
		want := string(rune(c))
		if c < 32 {
			want = `\u00` + string(digits[c/16]) + string(digits[c%16])
		}
		if s := short[c]; s != "" {
			want = s
		}
		prints(t, text("x"+string(rune(c))+"y"), `"x`+want+`y"`)
		prints(t, object(keyed(string(rune(c)), null())), `{"`+want+`":null}`)
	}
}

// TestPrintSkipsWhatAKindDoesNotName: fields that a kind doesn't name are
// nothing, whatever stands there.
func TestPrintSkipsWhatAKindDoesNotName(t *testing.T) {
	bad := json.Value{Kind: 9}
	for kind, want := range []string{"null", "false", "true", "1", `"1"`, "[]", "{}"} {
		v := json.Value{Kind: kind}
		if kind == json.Number || kind == json.String {
			v.Text = "1"
		} else {
			v.Text = "\xff"
		}
		if kind < json.Array {
			v.List = []json.Value{bad}
		}
		if kind != json.Object {
			v.Keys = []string{"\xff", "\xff"}
		}
		prints(t, v, want)
	}
}

func TestPrintNumbersThatAreNone(t *testing.T) {
	for _, s := range []string{
		"", " ", "-", "+1", "01", "-01", "00", ".5", "1.", "1.e5", "1e", "1e+", "1e5.5", "1 ", " 1", "1,2", "1x", "0x1", "--1", "1-", "NaN", "Infinity", "null", "\"1\"", "[1]", "1\n", "\x00", "1\x00", "\xff", "1\xff", "\u0661", "1e5e5", "1.2.3", "1_000",
	} {
		printFails(t, number(s), api.ErrForm)
		printFails(t, array(null(), number(s)), api.ErrForm)
		printFails(t, object(keyed("a", number(s))), api.ErrForm)
	}
}

func TestPrintForm(t *testing.T) {
	for _, kind := range []int{-1, 7, 8, 100, math.MinInt, math.MaxInt} {
		printFails(t, json.Value{Kind: kind}, api.ErrForm)
		printFails(t, json.Value{Kind: kind, Text: "1", List: []json.Value{null()}}, api.ErrForm)
		printFails(t, array(json.Value{Kind: kind}), api.ErrForm)
	}
	one, none := []json.Value{null()}, []json.Value(nil)
	printFails(t, json.Value{Kind: json.Object, Keys: []string{"a"}, List: none}, api.ErrForm)
	printFails(t, json.Value{Kind: json.Object, List: one}, api.ErrForm)
	printFails(t, json.Value{Kind: json.Object, Keys: []string{"a", "b"}, List: one}, api.ErrForm)
}

func TestPrintUtf(t *testing.T) {
	for _, s := range []string{"\xff", "a\x80", "\xed\xa0\x80", "\xc0\x80", "\u20ac\xe2\x82", "\xf4\x90\x80\x80"} {
		printFails(t, text(s), api.ErrUtf)
		printFails(t, array(null(), text(s)), api.ErrUtf)
		printFails(t, object(keyed(s, null())), api.ErrUtf)
		printFails(t, object(keyed("a", text(s))), api.ErrUtf)
	}
}

func TestPrintTwice(t *testing.T) {
	printFails(t, object(keyed("a", null()), keyed("a", null())), api.ErrTwice)
	printFails(t, object(keyed("", null()), keyed("b", null()), keyed("", null())), api.ErrTwice)
	printFails(t, array(object(keyed("\u20ac", null()), keyed("\u20ac", null()))), api.ErrTwice)
	prints(t, array(object(keyed("a", null())), object(keyed("a", object(keyed("a", null()))))), `[{"a":null},{"a":{"a":null}}]`)
}

func TestPrintDeep(t *testing.T) {
	prints(t, nested(64, null()), strings.Repeat("[", 64)+"null"+strings.Repeat("]", 64))
	prints(t, nested(63, array(array2()...)), strings.Repeat("[", 64)+"1,2"+strings.Repeat("]", 64))
	prints(t, nested(63, object()), strings.Repeat("[", 63)+"{}"+strings.Repeat("]", 63))
	for _, n := range []int{64, 65, 1000, 1 << 16} {
		printFails(t, nested(n, array()), api.ErrDeep)
		printFails(t, nested(n, object()), api.ErrDeep)
	}
	v := array()
	for range 64 {
		v = object(keyed("k", v))
	}
	printFails(t, v, api.ErrDeep)
	prints(t, nested(62, array(array(), array(), object())), strings.Repeat("[", 63)+"[],[],{}"+strings.Repeat("]", 63))
}

func array2() []json.Value {
	return []json.Value{number("1"), number("2")}
}

// TestPrintFirstFault: of several faults the leftmost is told, and those of
// one object or key in the chapter's order.
func TestPrintFirstFault(t *testing.T) {
	noKind, noNumber, noUtf := json.Value{Kind: 9}, number("x"), text("\xff")
	twice := object(keyed("a", null()), keyed("a", null()))
	unlike := json.Value{Kind: json.Object, Keys: []string{"\xff", "\xff"}, List: []json.Value{noUtf}}
	deep := nested(64, array())
	for _, c := range []struct {
		v    json.Value
		want api.Errno
	}{
		{array(noKind, noUtf, twice, deep), api.ErrForm},
		{array(noUtf, noKind, twice, deep), api.ErrUtf},
		{array(twice, noNumber, noUtf, deep), api.ErrTwice},
		{array(deep, noNumber, noUtf, twice), api.ErrDeep},
		{array(array(array(noUtf)), noKind), api.ErrUtf},
		{unlike, api.ErrForm},
		{nested(64, unlike), api.ErrForm},
		{nested(64, twice), api.ErrDeep},
		{nested(64, array(noKind)), api.ErrDeep},
		{object(keyed("\xff", noKind)), api.ErrUtf},
		{object(keyed("a", noKind), keyed("\xff", null())), api.ErrForm},
		{object(keyed("a", null()), keyed("a", noKind)), api.ErrTwice},
		{object(keyed("a", noKind), keyed("a", null())), api.ErrForm},
		{object(keyed("\xff", null()), keyed("\xff", null())), api.ErrUtf},
		{object(keyed("a", null()), keyed("a", null()), keyed("\xff", null())), api.ErrTwice},
		{object(keyed("a", null()), keyed("\xff", null()), keyed("a", null())), api.ErrUtf},
		{object(keyed("a", deep), keyed("a", null())), api.ErrDeep},
		{object(keyed("a", twice), keyed("\xff", null())), api.ErrTwice},
	} {
		printFails(t, c.v, c.want)
	}
}

// TestRoundTrip is P4.2, from both sides; and another library reads the same.
func TestRoundTrip(t *testing.T) {
	m := newMaker(9)
	for range 4000 {
		s, v := m.value(4)
		printed, e := json.Print(v)
		if e != api.OK {
			t.Fatalf("Print(%v): %d", v, e)
		}
		parses(t, string(printed), v)
		again, _, e := json.Parse([]byte(s))
		if e != api.OK || !json.Equal(again, v) {
			t.Fatalf("Parse(%q) = %v, not %v", s, again, v)
		}
		prints(t, again, string(printed))
		if !library.Valid(printed) {
			t.Fatalf("Print(%v) = %q is no text", v, printed)
		}
		if strings.ContainsAny(outsideStrings(string(printed)), " \t\r\n") {
			t.Fatalf("Print(%v) = %q has blanks", v, printed)
		}
	}
}

// outsideStrings is what a text has outside its strings.
func outsideStrings(s string) string {
	var out []byte
	inside := false
	for i := 0; i < len(s); i++ {
		switch {
		case s[i] == '"':
			inside = !inside
		case inside && s[i] == '\\':
			i++
		case !inside:
			out = append(out, s[i])
		}
	}
	return string(out)
}

// TestRoundTripOfLetters: each letter there is, in runs, printed and parsed.
func TestRoundTripOfLetters(t *testing.T) {
	for from := 0; from < 0x110000; from += 0x100 {
		if from >= 0xD800 && from < 0xE000 {
			continue
		}
		var run []rune
		for r := from; r < from+0x100; r++ {
			run = append(run, rune(r))
		}
		v := object(keyed(string(run), text(string(run))))
		b, e := json.Print(v)
		if e != api.OK {
			t.Fatalf("Print from %x: %d", from, e)
		}
		parses(t, string(b), v)
	}
}
