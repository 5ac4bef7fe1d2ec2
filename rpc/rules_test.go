package rpc_test

import (
	"testing"

	"whetstone/json"
	"whetstone/rpc"
)

func TestReadLeavesItsBody(t *testing.T) {
	const s = `{"jsonrpc":"2.0","id":"abc","method":"method","params":{"key":["text",1]}}`
	b := []byte(s + "mark")
	c, _, ok := rpc.Read(b[:len(s)])
	if !ok || string(b) != s+"mark" {
		t.Fatalf("Read changes its body into %q", b)
	}
	clear(b)
	want := rpc.Call{HasID: true, ID: json.Text("abc"), Method: "method", Params: parsed(t, `{"key":["text",1]}`)}
	if !sameCall(c, want) {
		t.Error("Read keeps its body's memory", c)
	}
	scribble(c.Params)
	calls(t, s, want)
}

func TestReadOfNothing(t *testing.T) {
	for _, b := range [][]byte{nil, {}} {
		if c, f, ok := rpc.Read(b); ok || !sameCall(c, rpc.Call{}) || !sameFault(f, rpc.Fault{Code: rpc.ParseError}) {
			t.Error("Read of nothing", c, f, ok)
		}
	}
}

func TestArgumentsStayAsTheyAre(t *testing.T) {
	for _, v := range values(t) {
		given := roomy(v)
		want := unfold(given)
		for what, call := range map[string]func(){
			"Result":   func() { rpc.Result(given, given) },
			"Error":    func() { rpc.Error(rpc.Fault{Code: 1, ID: given}) },
			"Notify":   func() { rpc.Notify("m", given) },
			"Position": func() { rpc.Position(given) },
			"Range":    func() { rpc.Range(given) },
		} {
			call()
			if !same(unfold(given), want) {
				t.Fatalf("%s changes what it is given, %v", what, v)
			}
		}
	}
}

// TestAnswersAreNewMemory: neither side sees what becomes of the other, nor
// one part of an answer what becomes of another.
func TestAnswersAreNewMemory(t *testing.T) {
	for _, v := range values(t) {
		for what, make := range map[string]func(v value) value{
			"Result": func(v value) value { return rpc.Result(v, v) },
			"Error":  func(v value) value { return rpc.Error(rpc.Fault{Code: 1, ID: v}) },
			"Notify": func(v value) value { return rpc.Notify("m", v) },
		} {
			want := make(v)
			given := roomy(v)
			got := make(given)
			scribble(got.List[1])
			if !same(given, v) || !same(got.List[2], want.List[2]) {
				t.Fatalf("what %s answers is shared, of %v", what, v)
			}
			scribble(got)
			got = make(given)
			scribble(given)
			if !same(got, want) {
				t.Fatalf("%s keeps what it is given, %v", what, v)
			}
		}
	}
}
