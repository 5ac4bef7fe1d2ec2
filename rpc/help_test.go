package rpc_test

import (
	"reflect"
	"slices"
	"testing"

	"whetstone/api"
	"whetstone/json"
	"whetstone/rpc"
)

type (
	value = json.Value
	pair  = json.Pair
)

// parsed is a text's value.
func parsed(t *testing.T, s string) value {
	t.Helper()
	v, _, e := json.Parse([]byte(s))
	if e != api.OK {
		t.Fatalf("%q is no value", s)
	}
	return v
}

// tidy makes empty lists nil, so that the library can hold values against
// each other field by field.
func tidy(v value) value {
	out := value{Kind: v.Kind, Text: v.Text}
	out.Keys = append(out.Keys, v.Keys...)
	for _, part := range v.List {
		out.List = append(out.List, tidy(part))
	}
	return out
}

func same(a, b value) bool {
	return reflect.DeepEqual(tidy(a), tidy(b))
}

func prints(t *testing.T, v value, want string) {
	t.Helper()
	if b, e := json.Print(v); e != api.OK || string(b) != want {
		t.Errorf("%v is printed %q, %d, not %q", v, b, e, want)
	}
}

func sameCall(a, b rpc.Call) bool {
	return a.HasID == b.HasID && a.Method == b.Method && same(a.ID, b.ID) && same(a.Params, b.Params)
}

func sameFault(a, b rpc.Fault) bool {
	return a.Code == b.Code && same(a.ID, b.ID)
}

// calls: s is read as this call.
func calls(t *testing.T, s string, want rpc.Call) {
	t.Helper()
	c, f, ok := rpc.Read([]byte(s))
	if !ok || !sameCall(c, want) || !sameFault(f, rpc.Fault{}) {
		t.Errorf("Read(%s) = %v, %v, %t, not %v", s, c, f, ok, want)
	}
}

// fails: s is read as no call, for this reason.
func fails(t *testing.T, s string, code int, id value) {
	t.Helper()
	c, f, ok := rpc.Read([]byte(s))
	if ok || !sameCall(c, rpc.Call{}) || !sameFault(f, rpc.Fault{Code: code, ID: id}) {
		t.Errorf("Read(%s) = %v, %v, %t, not %d with %v", s, c, f, ok, code, id)
	}
}

// values are some of each kind, and some that are none.
func values(t *testing.T) []value {
	return []value{
		{}, {Kind: json.False}, {Kind: json.True}, json.Of(0), json.Of(-32700), json.Text(""), json.Text("a\n\u20ac"), {Kind: json.Array}, {Kind: json.Object},
		parsed(t, `[1,[],"x",{"id":2,"b":[null]}]`), parsed(t, `{"jsonrpc":"2.0","id":1,"result":{"line":1,"character":2}}`),
		{Kind: 9}, {Kind: json.Number, Text: "1x"}, {Kind: json.Object, Keys: []string{"a"}},
	}
}

const spare = 3

// roomy is the same value with room behind each of its lists, filled with a
// mark.
func roomy(v value) value {
	out := value{Kind: v.Kind, Text: v.Text, Keys: make([]string, 0, len(v.Keys)+spare), List: make([]value, 0, len(v.List)+spare)}
	out.Keys = append(out.Keys, v.Keys...)
	for _, part := range v.List {
		out.List = append(out.List, roomy(part))
	}
	for i := range spare {
		out.Keys[:cap(out.Keys)][len(out.Keys)+i] = "mark"
		out.List[:cap(out.List)][len(out.List)+i] = json.Text("mark")
	}
	return out
}

// unfold is a value with the room of its lists made part of them.
func unfold(v value) value {
	out := value{Kind: v.Kind, Text: v.Text, Keys: slices.Clone(v.Keys[:cap(v.Keys)])}
	for _, part := range v.List[:cap(v.List)] {
		out.List = append(out.List, unfold(part))
	}
	return out
}

// scribble writes over all of a value's memory, its room too.
func scribble(v value) {
	for _, part := range v.List {
		scribble(part)
	}
	keys, list := v.Keys[:cap(v.Keys)], v.List[:cap(v.List)]
	for i := range keys {
		keys[i] = "scribble"
	}
	for i := range list {
		list[i] = value{Kind: 9, Text: "scribble"}
	}
}
