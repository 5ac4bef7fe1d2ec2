package rpc_test

import (
	"math/rand"
	"testing"

	"whetstone/api"
	"whetstone/json"
	"whetstone/rpc"
)

// someNumber is one that json.Int takes, often at an edge.
func someNumber(source *rand.Rand) int {
	edges := []int{0, 1, -1, 9, 10, 999999999, -999999999, 999999998, 100000000}
	if source.Intn(2) == 0 {
		return edges[source.Intn(len(edges))]
	}
	return source.Intn(2*999999999+1) - 999999999
}

func somePos(source *rand.Rand) api.Pos {
	return api.Pos{Line: someNumber(source), Unit: someNumber(source)}
}

func TestFromPos(t *testing.T) {
	prints(t, rpc.FromPos(api.Pos{Line: 3, Unit: 14}), `{"line":3,"character":14}`)
	prints(t, rpc.FromPos(api.Pos{}), `{"line":0,"character":0}`)
	prints(t, rpc.FromPos(api.Pos{Line: -1, Unit: 1 << 40}), `{"line":-1,"character":1099511627776}`)
	prints(t, rpc.FromRange(api.Pos{Line: 1, Unit: 2}, api.Pos{Line: 3, Unit: 4}), `{"start":{"line":1,"character":2},"end":{"line":3,"character":4}}`)
}

// TestMadeIsRead: what is made of a position or a range is read as it was,
// also when it was printed and parsed.
func TestMadeIsRead(t *testing.T) {
	source := rand.New(rand.NewSource(2))
	for range 2000 {
		from, to := somePos(source), somePos(source)
		for _, v := range []value{rpc.FromPos(from), sent(t, rpc.FromPos(from))} {
			if p, ok := rpc.Position(v); !ok || p != from {
				t.Fatalf("Position(%v) = %v, %t", v, p, ok)
			}
		}
		for _, v := range []value{rpc.FromRange(from, to), sent(t, rpc.FromRange(from, to))} {
			if f, e, ok := rpc.Range(v); !ok || f != from || e != to {
				t.Fatalf("Range(%v) = %v, %v, %t", v, f, e, ok)
			}
		}
	}
}

// sent is a value that was printed and parsed.
func sent(t *testing.T, v value) value {
	t.Helper()
	b, e := json.Print(v)
	if e != api.OK {
		t.Fatalf("%v isn't printed: %d", v, e)
	}
	return parsed(t, string(b))
}

// TestFarPositions: numbers that json.Int doesn't take aren't read.
func TestFarPositions(t *testing.T) {
	for _, n := range []int{1000000000, -1000000000, 1 << 62, -1 << 63} {
		for _, p := range []api.Pos{{Line: n}, {Unit: n}, {Line: n, Unit: n}} {
			noPosition(t, rpc.FromPos(p))
			noRange(t, rpc.FromRange(p, api.Pos{}))
			noRange(t, rpc.FromRange(api.Pos{}, p))
		}
	}
}

func noPosition(t *testing.T, v value) {
	t.Helper()
	if p, ok := rpc.Position(v); ok || p != (api.Pos{}) {
		t.Errorf("Position(%v) = %v, %t", v, p, ok)
	}
}

func noRange(t *testing.T, v value) {
	t.Helper()
	if f, e, ok := rpc.Range(v); ok || f != (api.Pos{}) || e != (api.Pos{}) {
		t.Errorf("Range(%v) = %v, %v, %t", v, f, e, ok)
	}
}

func TestPosition(t *testing.T) {
	for s, want := range map[string]api.Pos{
		`{"line":3,"character":14}`:                             {Line: 3, Unit: 14},
		`{"character":1,"line":2}`:                              {Line: 2, Unit: 1},
		`{"x":1,"line":-5,"unit":[],"character":0,"Line":"no"}`: {Line: -5},
	} {
		if p, ok := rpc.Position(parsed(t, s)); !ok || p != want {
			t.Errorf("Position(%s) = %v, %t", s, p, ok)
		}
	}
	first := value{Kind: json.Object, Keys: []string{"line", "character", "line"}, List: []value{json.Of(1), json.Of(2), json.Text("")}}
	if p, ok := rpc.Position(first); !ok || p != (api.Pos{Line: 1, Unit: 2}) {
		t.Error("the first of two keys counts", p, ok)
	}
}

func TestNoPosition(t *testing.T) {
	for _, s := range []string{
		"{}", "null", "1", `"line"`, "[1,2]", `{"line":1}`, `{"character":1}`, `{"Line":1,"Character":2}`, `{"line":1,"unit":2}`, `[{"line":1,"character":2}]`, `["line","character"]`,
		`{"line":"1","character":2}`, `{"line":1,"character":"2"}`, `{"line":null,"character":2}`, `{"line":1,"character":null}`, `{"line":1.0,"character":2}`, `{"line":1,"character":2e0}`, `{"line":-0,"character":2}`, `{"line":1,"character":-0}`,
		`{"line":1000000000,"character":2}`, `{"line":1,"character":-1000000000}`, `{"line":[1],"character":2}`, `{"line":1,"character":{}}`, `{"start":{"line":1,"character":2}}`,
	} {
		noPosition(t, parsed(t, s))
	}
	for _, v := range []value{
		{Kind: json.Object, Keys: []string{"line", "character"}, List: []value{json.Of(1)}}, {Kind: json.Object, Keys: []string{"line", "character"}, List: []value{json.Of(1), json.Of(2), json.Of(3)}},
		{Kind: json.Array, Keys: []string{"line", "character"}, List: []value{json.Of(1), json.Of(2)}}, {Kind: 9}, {Kind: json.Object, Keys: []string{"line", "character"}, List: []value{{Kind: json.Number, Text: "01"}, json.Of(2)}},
		{Kind: json.Object, Keys: []string{"line", "character"}, List: []value{json.Of(1), {Kind: json.String, Text: "2"}}},
	} {
		noPosition(t, v)
	}
}

func TestRange(t *testing.T) {
	for s, want := range map[string][2]api.Pos{
		`{"start":{"line":1,"character":2},"end":{"line":3,"character":4}}`:                          {{Line: 1, Unit: 2}, {Line: 3, Unit: 4}},
		`{"end":{"character":2,"line":1},"x":null,"start":{"line":9,"character":8,"end":[]}}`:        {{Line: 9, Unit: 8}, {Line: 1, Unit: 2}},
		`{"start":{"line":0,"character":0},"end":{"line":0,"character":0},"line":[],"character":""}`: {},
	} {
		if f, e, ok := rpc.Range(parsed(t, s)); !ok || f != want[0] || e != want[1] {
			t.Errorf("Range(%s) = %v, %v, %t", s, f, e, ok)
		}
	}
}

func TestNoRange(t *testing.T) {
	for _, s := range []string{
		"{}", "null", "[]", `"start"`, `{"line":1,"character":2}`, `{"start":{"line":1,"character":2}}`, `{"end":{"line":1,"character":2}}`, `{"start":{"line":1,"character":2},"end":null}`, `{"start":1,"end":{"line":1,"character":2}}`,
		`{"start":{"line":1},"end":{"line":1,"character":2}}`, `{"start":{"line":1,"character":2},"end":{"character":2}}`, `{"start":{"line":1,"character":2},"end":{"line":1,"character":2.5}}`, `{"Start":{"line":1,"character":2},"End":{"line":1,"character":2}}`,
		`[{"line":1,"character":2},{"line":1,"character":2}]`, `{"start":[1,2],"end":[3,4]}`,
	} {
		noRange(t, parsed(t, s))
	}
	noRange(t, value{Kind: json.Object, Keys: []string{"start", "end"}, List: []value{rpc.FromPos(api.Pos{})}})
}
