package rpc_test

import (
	"math/rand"
	"strings"
	"testing"

	"whetstone/json"
	"whetstone/rpc"
)

func TestExamples(t *testing.T) {
	calls(t, `{"jsonrpc":"2.0","id":1,"method":"m"}`, rpc.Call{HasID: true, ID: json.Of(1), Method: "m"})
	fails(t, "[1]", rpc.Invalid, value{})
	fails(t, `{"id":[]}`, rpc.Invalid, value{})
	fails(t, `{"jsonrpc":"2.0","id":1,"result":2}`, 0, value{})
}

func TestConstants(t *testing.T) {
	if rpc.ParseError != -32700 || rpc.Invalid != -32600 || rpc.NoMethod != -32601 || rpc.InvalidParams != -32602 || rpc.NotReady != -32002 {
		t.Error("the numbers of errors")
	}
}

func TestReadCalls(t *testing.T) {
	for s, want := range map[string]rpc.Call{
		`{"jsonrpc":"2.0","method":"m"}`:                                      {Method: "m"},
		`{"jsonrpc":"2.0","method":""}`:                                       {},
		` {"method" : "a/b" , "jsonrpc" : "2\u002e0"} `:                       {Method: "a/b"},
		`{"jsonrpc":"2.0","id":"","method":"m"}`:                              {HasID: true, ID: json.Text(""), Method: "m"},
		`{"jsonrpc":"2.0","id":"a\n","method":"m\u20ac"}`:                     {HasID: true, ID: json.Text("a\n"), Method: "m\u20ac"},
		`{"jsonrpc":"2.0","id":0,"method":"m"}`:                               {HasID: true, ID: json.Of(0), Method: "m"},
		`{"jsonrpc":"2.0","id":-999999999,"method":"m"}`:                      {HasID: true, ID: json.Of(-999999999), Method: "m"},
		`{"jsonrpc":"2.0","id":999999999,"method":"m"}`:                       {HasID: true, ID: json.Of(999999999), Method: "m"},
		`{"jsonrpc":"2.0","method":"m","params":[]}`:                          {Method: "m", Params: value{Kind: json.Array}},
		`{"jsonrpc":"2.0","method":"m","params":{}}`:                          {Method: "m", Params: value{Kind: json.Object}},
		`{"jsonrpc":"2.0","method":"m","params":[1,{"a":[null]}]}`:            {Method: "m", Params: parsed(t, `[1,{"a":[null]}]`)},
		`{"params":{"id":[],"method":1},"id":7,"method":"m","jsonrpc":"2.0"}`: {HasID: true, ID: json.Of(7), Method: "m", Params: parsed(t, `{"id":[],"method":1}`)},
		`{"jsonrpc":"2.0","id":1,"method":"m","result":1,"error":2,"x":[]}`:   {HasID: true, ID: json.Of(1), Method: "m"},
		`{"jsonrpc":"2.0","method":"m","ID":[],"Params":1}`:                   {Method: "m"},
	} {
		calls(t, s, want)
	}
}

func TestReadNoValue(t *testing.T) {
	for _, s := range []string{"", " ", "{", "}", "x", `{"jsonrpc":"2.0","id":1,"method":"m"`, `{"jsonrpc":"2.0","id":1,"method":"m"}x`, `{"id":1,"id":1}`, `{"jsonrpc":"2.0","id":01}`, "\"\xff\"", "{\"id\":1,\"a\":\"\xe2\x82\"}", "[1,]", "\ufeff{}", strings.Repeat("[", 65) + strings.Repeat("]", 65)} {
		fails(t, s, rpc.ParseError, value{})
	}
	fails(t, strings.Repeat("[", 64)+strings.Repeat("]", 64), rpc.Invalid, value{})
}

// TestReadWrongID: an id that is none comes ahead of all else that is wrong.
func TestReadWrongID(t *testing.T) {
	for _, id := range []string{"null", "true", "false", "[]", "{}", "[1]", `{"id":1}`, "1.0", "0.5", "1e1", "-0", "1E0", "1000000000", "-1000000000", "12345678901234567890"} {
		for _, rest := range []string{"", `,"jsonrpc":"2.0"`, `,"jsonrpc":"1.0"`, `,"jsonrpc":"2.0","method":"m"`, `,"jsonrpc":"2.0","method":1,"params":1`, `,"jsonrpc":"2.0","result":1`} {
			fails(t, `{"id":`+id+rest+`}`, rpc.Invalid, value{})
		}
	}
}

func TestReadOtherFaults(t *testing.T) {
	for s, id := range map[string]value{
		"1": {}, `"2.0"`: {}, "null": {}, "true": {}, "[]": {}, `[{"jsonrpc":"2.0","id":1,"method":"m"}]`: {}, "{}": {}, `"id"`: {},
		`{"id":1}`: json.Of(1), `{"id":"x","method":"m"}`: json.Text("x"), `{"jsonrpc":2.0,"id":1,"method":"m"}`: json.Of(1), `{"jsonrpc":"2","id":1,"method":"m"}`: json.Of(1), `{"jsonrpc":"2.0 ","id":1,"method":"m"}`: json.Of(1),
		`{"jsonrpc":["2.0"],"id":1,"method":"m"}`: json.Of(1), `{"jsonrpc":null,"method":"m"}`: {}, `{"JSONRPC":"2.0","id":2,"method":"m"}`: json.Of(2), `{"id":1,"result":1}`: json.Of(1), `{"jsonrpc":"1.0","id":1,"error":1}`: json.Of(1),
		`{"jsonrpc":"2.0"}`: {}, `{"jsonrpc":"2.0","id":3}`: json.Of(3), `{"jsonrpc":"2.0","result":1}`: {}, `{"jsonrpc":"2.0","error":{}}`: {}, `{"jsonrpc":"2.0","id":"y","params":[]}`: json.Text("y"), `{"jsonrpc":"2.0","id":4,"Result":1}`: json.Of(4),
		`{"jsonrpc":"2.0","id":1,"method":null}`: json.Of(1), `{"jsonrpc":"2.0","id":1,"method":1}`: json.Of(1), `{"jsonrpc":"2.0","id":1,"method":["m"]}`: json.Of(1), `{"jsonrpc":"2.0","id":1,"method":{},"result":1}`: json.Of(1), `{"jsonrpc":"2.0","method":true}`: {},
		`{"jsonrpc":"2.0","id":1,"method":"m","params":null}`: json.Of(1), `{"jsonrpc":"2.0","id":1,"method":"m","params":1}`: json.Of(1), `{"jsonrpc":"2.0","id":"","method":"m","params":"[]"}`: json.Text(""), `{"jsonrpc":"2.0","method":"m","params":false}`: {}, `{"jsonrpc":"2.0","method":"m","params":true}`: {},
	} {
		fails(t, s, rpc.Invalid, id)
	}
}

func TestReadReplies(t *testing.T) {
	for _, s := range []string{
		`{"jsonrpc":"2.0","id":1,"result":null}`, `{"jsonrpc":"2.0","id":"x","error":{"code":1}}`, `{"jsonrpc":"2.0","id":1,"error":null,"result":[]}`, `{"jsonrpc":"2.0","id":0,"result":false,"params":1}`,
	} {
		fails(t, s, 0, value{})
	}
}

// choice is what an object may have under a key: its text, "" being nothing,
// and whether it is as it must be.
type choice struct {
	text string
	good bool
}

func choices(good, wrong []string) []choice {
	all := []choice{{}}
	for _, s := range good {
		all = append(all, choice{s, true})
	}
	for _, s := range wrong {
		all = append(all, choice{s, false})
	}
	return all
}

// TestReadEveryWay: all that may stand under each key, beside all others, in
// some order; what is right is told by what was chosen.
func TestReadEveryWay(t *testing.T) {
	source := rand.New(rand.NewSource(1))
	for _, id := range choices([]string{"1", `"a"`, "-999999999"}, []string{"null", "1.0", "[]"}) {
		for _, version := range choices([]string{`"2.0"`}, []string{`"1.0"`, "2.0"}) {
			for _, method := range choices([]string{`"m"`}, []string{"1", "null"}) {
				for _, params := range choices([]string{"{}", `["p"]`}, []string{"null", "3"}) {
					for _, result := range choices([]string{"1", "null"}, nil) {
						for _, fault := range choices([]string{"{}"}, nil) {
							s := written(source, "id", id, "jsonrpc", version, "method", method, "params", params, "result", result, "error", fault)
							readsAs(t, s, id, version, method, params, result.good || fault.good)
						}
					}
				}
			}
		}
	}
}

// written is the object of keys, each with its choice behind it.
func written(source *rand.Rand, l ...any) string {
	var parts []string
	for i := 0; i < len(l); i += 2 {
		if c := l[i+1].(choice); c.text != "" {
			parts = append(parts, `"`+l[i].(string)+`":`+c.text)
		}
	}
	source.Shuffle(len(parts), func(i, j int) { parts[i], parts[j] = parts[j], parts[i] })
	return "{" + strings.Join(parts, ",") + "}"
}

func readsAs(t *testing.T, s string, id, version, method, params choice, answered bool) {
	t.Helper()
	there := func(c choice) bool { return c.text != "" }
	at := func(c choice) value {
		if !there(c) {
			return value{}
		}
		return parsed(t, c.text)
	}
	switch {
	case there(id) && !id.good:
		fails(t, s, rpc.Invalid, value{})
	case !version.good:
		fails(t, s, rpc.Invalid, at(id))
	case !there(method) && there(id) && answered:
		fails(t, s, 0, value{})
	case !method.good || there(params) && !params.good:
		fails(t, s, rpc.Invalid, at(id))
	default:
		calls(t, s, rpc.Call{HasID: there(id), ID: at(id), Method: "m", Params: at(params)})
	}
}

func TestResult(t *testing.T) {
	prints(t, rpc.Result(json.Of(1), value{}), `{"jsonrpc":"2.0","id":1,"result":null}`)
	prints(t, rpc.Result(value{}, json.Text("a")), `{"jsonrpc":"2.0","id":null,"result":"a"}`)
	prints(t, rpc.Result(json.Text("x"), parsed(t, `{"a":[1]}`)), `{"jsonrpc":"2.0","id":"x","result":{"a":[1]}}`)
	for _, id := range values(t) {
		for _, v := range values(t) {
			want := value{Kind: json.Object, Keys: []string{"jsonrpc", "id", "result"}, List: []value{json.Text("2.0"), id, v}}
			if got := rpc.Result(id, v); !same(got, want) {
				t.Errorf("Result(%v, %v) = %v", id, v, got)
			}
		}
	}
}

func TestError(t *testing.T) {
	for code, text := range map[int]string{
		-32700: "parse error", -32600: "invalid request", -32601: "unknown method", -32602: "invalid parameters", -32002: "not initialized",
		0: "error", 1: "error", -1: "error", -32603: "error", -32701: "error", -32001: "error", 32700: "error", -32000: "error", 1 << 62: "error", -1 << 63: "error",
	} {
		for _, id := range values(t) {
			told := value{Kind: json.Object, Keys: []string{"code", "message"}, List: []value{json.Of(code), json.Text(text)}}
			want := value{Kind: json.Object, Keys: []string{"jsonrpc", "id", "error"}, List: []value{json.Text("2.0"), id, told}}
			if got := rpc.Error(rpc.Fault{Code: code, ID: id}); !same(got, want) {
				t.Errorf("Error(%d, %v) = %v", code, id, got)
			}
		}
	}
	prints(t, rpc.Error(rpc.Fault{Code: -32700}), `{"jsonrpc":"2.0","id":null,"error":{"code":-32700,"message":"parse error"}}`)
	prints(t, rpc.Error(rpc.Fault{Code: rpc.NotReady, ID: json.Of(1)}), `{"jsonrpc":"2.0","id":1,"error":{"code":-32002,"message":"not initialized"}}`)
}

func TestNotify(t *testing.T) {
	prints(t, rpc.Notify("a/b", parsed(t, `{"x":[]}`)), `{"jsonrpc":"2.0","method":"a/b","params":{"x":[]}}`)
	prints(t, rpc.Notify("", value{}), `{"jsonrpc":"2.0","method":"","params":null}`)
	for _, method := range []string{"", "m", "\"\n\u20ac", "\xff"} {
		for _, v := range values(t) {
			want := value{Kind: json.Object, Keys: []string{"jsonrpc", "method", "params"}, List: []value{json.Text("2.0"), json.Text(method), v}}
			if got := rpc.Notify(method, v); !same(got, want) {
				t.Errorf("Notify(%q, %v) = %v", method, v, got)
			}
		}
	}
}

// TestRepliesAreRead: what is made here is read as what it is.
func TestRepliesAreRead(t *testing.T) {
	text := func(v value) string {
		b, _ := json.Print(v)
		return string(b)
	}
	fails(t, text(rpc.Result(json.Of(1), value{})), 0, value{})
	fails(t, text(rpc.Error(rpc.Fault{Code: rpc.Invalid, ID: json.Text("a")})), 0, value{})
	fails(t, text(rpc.Error(rpc.Fault{Code: rpc.Invalid})), rpc.Invalid, value{})
	calls(t, text(rpc.Notify("m", parsed(t, "[1]"))), rpc.Call{Method: "m", Params: parsed(t, "[1]")})
}
