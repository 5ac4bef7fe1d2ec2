package json_test

import (
	"slices"
	"strings"
	"testing"

	"whetstone/api"
	"whetstone/json"
)

const spare = 4

// roomy is the same value with room behind each of its lists, filled with a
// mark.
func roomy(v json.Value) json.Value {
	out := json.Value{Kind: v.Kind, Text: v.Text, Keys: make([]string, 0, len(v.Keys)+spare), List: make([]json.Value, 0, len(v.List)+spare)}
	out.Keys = append(out.Keys, v.Keys...)
	for _, part := range v.List {
		out.List = append(out.List, roomy(part))
	}
	for i := range spare {
		out.Keys[:cap(out.Keys)][len(out.Keys)+i] = "mark"
		out.List[:cap(out.List)][len(out.List)+i] = text("mark")
	}
	return out
}

// unfold is a value with the room of its lists made part of them.
func unfold(v json.Value) json.Value {
	out := json.Value{Kind: v.Kind, Text: v.Text, Keys: slices.Clone(v.Keys[:cap(v.Keys)])}
	for _, part := range v.List[:cap(v.List)] {
		out.List = append(out.List, unfold(part))
	}
	return out
}

// scribble overwrites all of a value's memory, its room too.
func scribble(v json.Value) {
	for _, part := range v.List {
		scribble(part)
	}
	keys, list := v.Keys[:cap(v.Keys)], v.List[:cap(v.List)]
	for i := range keys {
		keys[i] = "scribble"
	}
	for i := range list {
		list[i] = json.Value{Kind: 9, Text: "scribble"}
	}
}

func samples() []json.Value {
	m := newMaker(10)
	all := unlikeValues()
	for range 200 {
		_, v := m.value(4)
		all = append(all, v)
	}
	return all
}

func TestArgumentsStayAsTheyAre(t *testing.T) {
	for _, v := range samples() {
		given := roomy(v)
		l := []pair{keyed("a", given), keyed("b", given), keyed("mark", null())}
		want := unfold(given)
		for what, call := range map[string]func(){
			"Print": func() { json.Print(given) },
			"Get":   func() { json.Get(given, "a") },
			"Int":   func() { json.Int(given) },
			"Made":  func() { json.Made(l[:2]...) },
			"Equal": func() { json.Equal(given, given) },
		} {
			call()
			if !same(unfold(given), want) || l[0].Key != "a" || l[2].Key != "mark" {
				t.Fatalf("%s changes what it is given, %v", what, v)
			}
		}
	}
}

func TestParseLeavesItsText(t *testing.T) {
	m := newMaker(11)
	for range 300 {
		s, want := m.value(3)
		b := append([]byte(s), "mark"...)
		v, _, e := json.Parse(b[:len(s)])
		if e != api.OK || string(b) != s+"mark" {
			t.Fatalf("Parse changes %q into %q", s, b)
		}
		clear(b)
		if !same(v, want) {
			t.Fatalf("Parse(%q) keeps the text's memory: %v", s, v)
		}
	}
}

func TestPrintIsNewMemory(t *testing.T) {
	for _, v := range samples() {
		first, e := json.Print(v)
		if e != api.OK {
			continue
		}
		want := string(first)
		clear(first[:cap(first)])
		prints(t, v, want)
	}
}

// TestGetIsNewMemory: neither side sees what becomes of the other.
func TestGetIsNewMemory(t *testing.T) {
	for _, v := range samples() {
		given := object(keyed("a", roomy(v)), keyed("b", null()))
		got, _ := json.Get(given, "a")
		scribble(got)
		if !same(given, object(keyed("a", v), keyed("b", null()))) {
			t.Fatalf("what Get answers is part of %v", v)
		}
		got, _ = json.Get(given, "a")
		scribble(given)
		if !same(got, v) {
			t.Fatalf("Get answers a part of %v", v)
		}
	}
}

func TestMadeIsNewMemory(t *testing.T) {
	for _, v := range samples() {
		part := roomy(v)
		l := []pair{keyed("a", part), keyed("b", part)}
		want := object(keyed("a", v), keyed("b", v))
		made := json.Made(l...)
		scribble(made.List[0])
		if !same(part, v) || !same(made.List[1], v) {
			t.Fatalf("what Made answers is shared: %v", v)
		}
		made = json.Made(l...)
		scribble(part)
		l[0], l[1] = pair{}, pair{}
		if !same(made, want) {
			t.Fatalf("Made keeps what it is given: %v", v)
		}
	}
}

// TestListsOfAnAnswerShareNothing: each list of what is parsed may be added to.
func TestListsOfAnAnswerShareNothing(t *testing.T) {
	m := newMaker(12)
	for range 300 {
		s, want := m.value(4)
		v, _, _ := json.Parse([]byte(s))
		addToAll(v)
		if !same(v, want) {
			t.Fatalf("lists of %q share their memory: %v", s, v)
		}
	}
}

// addToAll writes into the room behind each list.
func addToAll(v json.Value) {
	_ = append(v.Keys, "added")
	_ = append(v.List, text("added"))
	for _, part := range v.List {
		addToAll(part)
	}
}

// TestNothingIsKept: a text that goes wrong leaves nothing to the next one.
func TestNothingIsKept(t *testing.T) {
	for range 2 {
		fails(t, `{"a":1,"a":2}`, 7, api.ErrTwice)
		parses(t, `{"a":1}`, object(keyed("a", number("1"))))
		fails(t, strings.Repeat("[", 65), 64, api.ErrDeep)
		parses(t, strings.Repeat("[", 64)+strings.Repeat("]", 64), nested(63, array()))
		printFails(t, nested(64, array()), api.ErrDeep)
		prints(t, nested(63, array()), strings.Repeat("[", 64)+strings.Repeat("]", 64))
	}
}

func TestNilAndEmptyAreOne(t *testing.T) {
	for _, b := range [][]byte{nil, {}} {
		if v, at, e := json.Parse(b); !isNothing(v) || at != 0 || e != api.ErrEnds {
			t.Error("Parse of nothing", v, at, e)
		}
	}
	for _, v := range []json.Value{{Kind: json.Object}, {Kind: json.Object, Keys: []string{}}, {Kind: json.Object, List: []json.Value{}}} {
		prints(t, v, "{}")
		if _, ok := json.Get(v, ""); ok {
			t.Error("Get of an object of nothing")
		}
	}
	prints(t, json.Value{Kind: json.Array, List: []json.Value{}}, "[]")
	if !same(json.Made([]pair{}...), json.Made(nil...)) {
		t.Error("Made of nil and of nothing")
	}
}
