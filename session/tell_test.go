package session_test

import (
	"math"
	"testing"

	"whetstone/api"
	"whetstone/check"
	"whetstone/json"
	"whetstone/session"
	"whetstone/text"
)

func openText(t *testing.T, version int, s string) *text.Doc {
	t.Helper()
	d, e := text.Open(version, s)
	if e != api.OK {
		t.Fatal(e)
	}
	return d
}

func prints(t *testing.T, v json.Value, want string) {
	t.Helper()
	if got, e := json.Print(v); string(got) != want || e != api.OK {
		t.Errorf("%s, %v\n  not %s", got, e, want)
	}
}

func span(from, to int) api.Span { return api.Span{From: from, To: to} }

// TestTold: a Diag, a Sig and a document's Diags as values.
func TestTold(t *testing.T) {
	d := openText(t, 7, "a\U0001f600b\r\ncd\n")
	for _, x := range []struct {
		s    api.Span
		want string
	}{
		{span(0, 0), bounds(0, 0, 0, 0)}, {span(0, 5), bounds(0, 0, 0, 3)}, {span(1, 6), bounds(0, 1, 0, 4)}, {span(2, 4), bounds(0, 1, 0, 1)}, {span(7, 8), bounds(0, 4, 1, 0)},
		{span(6, 10), bounds(0, 4, 1, 2)}, {span(9, 11), bounds(1, 1, 2, 0)}, {span(11, 99), bounds(2, 0, 2, 0)}, {span(-5, -1), bounds(0, 0, 0, 0)}, {span(9, 1), bounds(1, 1, 0, 1)},
		{span(math.MinInt, math.MaxInt), bounds(0, 0, 2, 0)},
	} {
		prints(t, session.Diagnostic(d, api.Diag{Span: x.s, Code: -12, Text: "x \" y"}), `{"range":`+x.want+`,"severity":1,"code":-12,"source":"whetstone","message":"x \" y"}`)
		prints(t, session.Hovered(d, check.Sig{At: x.s, Text: "f(\n)"}), hovered("f(\n)", x.want))
	}
	one, other := api.Diag{Span: span(9, 10), Code: 3, Text: "one"}, api.Diag{Span: span(0, 1), Code: 0, Text: ""}
	wrongOne, wrongOther := diag(bounds(1, 1, 1, 2), 3, "one"), diag(bounds(0, 0, 0, 1), 0, "")
	// As many as there are, in the order in which they are handed in.
	prints(t, session.Published("u", d, nil), published("u", 7))
	prints(t, session.Published("", d, []api.Diag{}), published("", 7))
	prints(t, session.Published("\t\u20ac", d, []api.Diag{one, other, one}), published("\t\u20ac", 7, wrongOne, wrongOther, wrongOne))
	if e := d.Apply(-8, []text.Change{{Text: ""}}); e != api.OK {
		t.Fatal(e)
	}
	prints(t, session.Published("u", d, []api.Diag{one}), published("u", -8, diag(bounds(0, 0, 0, 0), 3, "one")))
}

// TestToldOfNothing: nobody's document, and words that can't be printed.
func TestToldOfNothing(t *testing.T) {
	x := api.Diag{Span: span(3, 5), Code: 1, Text: "t"}
	prints(t, session.Diagnostic(nil, x), diag(bounds(0, 0, 0, 0), 1, "t"))
	prints(t, session.Hovered(nil, check.Sig{At: x.Span, Text: "t"}), hovered("t", bounds(0, 0, 0, 0)))
	prints(t, session.Published("u", nil, []api.Diag{x}), published("u", 0, diag(bounds(0, 0, 0, 0), 1, "t")))
	prints(t, session.Published("u", &text.Doc{}, nil), published("u", 0))
	for _, v := range []json.Value{
		session.Published("\xff", openText(t, 1, ""), nil),
		session.Diagnostic(nil, api.Diag{Text: "\xff"}),
		session.Hovered(nil, check.Sig{Text: "\xff"}),
	} {
		if _, e := json.Print(v); e != api.ErrUtf {
			t.Error(v, e)
		}
	}
}

// TestToldIsNew: what is handed in isn't changed, and each answer has its own memory.
func TestToldIsNew(t *testing.T) {
	d := openText(t, 1, "ab")
	room := []api.Diag{{Span: span(0, 1), Code: 1, Text: "a"}, {Span: span(1, 2), Code: 2, Text: "b"}}
	want := published("u", 1, diag(bounds(0, 0, 0, 1), 1, "a"))
	one, other := session.Published("u", d, room[:1]), session.Published("u", d, room[:1])
	if room[0] != (api.Diag{Span: span(0, 1), Code: 1, Text: "a"}) || room[1] != (api.Diag{Span: span(1, 2), Code: 2, Text: "b"}) {
		t.Error("Published changes what it is given", room)
	}
	room[0] = api.Diag{}
	spoil(one)
	prints(t, other, want)
	prints(t, session.Published("u", d, []api.Diag{{Span: span(0, 1), Code: 1, Text: "a"}}), want)
	spoil(session.Diagnostic(d, api.Diag{}))
	spoil(session.Hovered(d, check.Sig{}))
	prints(t, session.Diagnostic(d, api.Diag{Span: span(0, 1), Code: 1, Text: "a"}), diag(bounds(0, 0, 0, 1), 1, "a"))
}

// spoil writes over all of a value.
func spoil(v json.Value) {
	for i := range v.Keys[:cap(v.Keys)] {
		v.Keys[:cap(v.Keys)][i] = "spoilt"
	}
	list := v.List[:cap(v.List)]
	for i := range list {
		spoil(list[i])
		list[i] = json.Value{Kind: 99}
	}
}
