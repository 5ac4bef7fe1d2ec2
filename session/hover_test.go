package session_test

import (
	"strings"
	"testing"

	"whetstone/session"
)

// hovers: what a hover over a position of the document a answers ("": null).
func hovers(t *testing.T, s *session.Server, line, unit int, want string) {
	t.Helper()
	if want == "" {
		want = "null"
	}
	talks(t, s, says{hover("7", "a", line, unit), result("7", want)})
}

// TestHover: each position of a name, both its ends too, and none beside it.
func TestHover(t *testing.T) {
	s := awake(t, "// \U0001f600\r\n\U0001f600;", fine)
	hovers(t, s, 0, 0, "") // the text isn't right
	s = awake(t, "qual p(a) = a >= 0; // \U0001f600\r\n/", "fn f() -> int = 1;")
	hovers(t, s, 1, 0, "")
	text := "qual p(a) = a >= 0; // \U0001f600\r\nfn down(x: int) -> int = if x <= 0 then 0 else down(x - 1);\rpub fn g(n: int{v >= 0}) -> int = down(n);"
	s = awake(t, text)
	down := hovered("down(x: int{v >= 0}) -> int{v >= 0}", bounds(1, 3, 1, 7))
	g := hovered("g(n: int{v >= 0}) -> int", bounds(2, 7, 2, 8))
	for unit := -3; unit < 70; unit++ {
		hovers(t, s, 0, unit, "")
		want := ""
		if 3 <= unit && unit <= 7 {
			want = down
		}
		hovers(t, s, 1, unit, want)
		want = ""
		if unit == 7 || unit == 8 {
			want = g
		}
		hovers(t, s, 2, unit, want)
	}
	hovers(t, s, 3, 0, "")
	hovers(t, s, -1, 7, "")
	hovers(t, s, 999999999, 999999999, "")
}

// TestHoverUnits: positions count UTF-16 units; the answer is the text's.
func TestHoverUnits(t *testing.T) {
	s := awake(t, "//\u20ac\nfn a() -> int = 1;//\U0001f600\U0001f600\u20ac\r")
	hovers(t, s, 1, 3, hovered("a() -> int", bounds(1, 3, 1, 4)))
	talks(t, s, says{didChange("a", 2, ranged(1, 25, 1, 25, "\U0001f600\nfn \nb() -> bool = true;")), published("a", 2)})
	textIs(t, s, "a", "//\u20ac\nfn a() -> int = 1;//\U0001f600\U0001f600\u20ac\U0001f600\nfn \nb() -> bool = true;\r")
	hovers(t, s, 3, 0, hovered("b() -> bool", bounds(3, 0, 3, 1)))
	hovers(t, s, 3, 1, hovered("b() -> bool", bounds(3, 0, 3, 1)))
	hovers(t, s, 3, 2, "")
	hovers(t, s, 3, -9, hovered("b() -> bool", bounds(3, 0, 3, 1)))
	hovers(t, s, 2, 3, "")
}

// TestHoverEnds: a position behind a line's end counts as the end, one of no line as the
// text's.
func TestHoverEnds(t *testing.T) {
	s := awake(t, "fn\na\n() -> int = 1;")
	a := hovered("a() -> int", bounds(1, 0, 1, 1))
	for _, unit := range []int{-1, 0, 1, 2, 99} {
		hovers(t, s, 1, unit, a)
	}
	hovers(t, s, 0, 2, "")
	hovers(t, s, 2, 0, "")
}

// TestHoverOfTheLastReport: of a text with anything wrong in its items there is no Sig; one
// that may go wrong has them.
func TestHoverOfTheLastReport(t *testing.T) {
	s := awake(t, fine)
	f := hovered("f(x: int) -> int", bounds(0, 3, 0, 4))
	hovers(t, s, 0, 3, f)
	s.Feed([]byte(framed(didChange("a", 2, ranged(0, 22, 0, 23, "1 / x")))))
	hovers(t, s, 0, 3, f)
	for _, wrong := range []string{"nobody()", "true", "", "#", "("} {
		s.Feed([]byte(framed(didChange("a", 3, ranged(0, 22, 0, 99, wrong)))))
		hovers(t, s, 0, 3, "")
	}
	s.Feed([]byte(framed(didChange("a", 4, whole(" fn f(y: bool) -> bool = y;")))))
	hovers(t, s, 0, 3, "")
	hovers(t, s, 0, 4, hovered("f(y: bool) -> bool", bounds(0, 4, 0, 5)))
	s.Feed([]byte(framed(didOpen("a", 1, fine))))
	hovers(t, s, 0, 3, f)
	hovers(t, s, 0, 5, "")
	s.Feed([]byte(framed(didClose("a"))))
	hovers(t, s, 0, 3, "")
}

// notHovers are parameters that aren't as hover's must be.
func notHovers() []string {
	at := `"position":` + position(0, 3)
	l := []string{
		"", "{}", "[]", `["a"]`, `{` + at + `}`, `{"uri":"a",` + at + `}`, `{"textDocument":"a",` + at + `}`, `{"textDocument":{},` + at + `}`, `{"textDocument":["a"],` + at + `}`, `{"textDocument":{"Uri":"a"},` + at + `}`,
		`[{"textDocument":{"uri":"a"},` + at + `}]`, `{"textDocument":{"uri":"a"}}`, `{"textDocument":{"uri":"a",` + at + `}}`, `{"textDocument":{"uri":"a"},"line":0,"character":3}`, `{"textDocument":{"uri":"nobody"}}`,
	}
	for _, v := range []string{"1", "null", "true", "[]", `["a"]`, `{}`} {
		l = append(l, `{"textDocument":{"uri":`+v+`},`+at+`}`, `{"textDocument":{"uri":"a"},"position":`+v+`}`, `{"textDocument":{"uri":"nobody"},"position":`+v+`}`)
	}
	for _, v := range notNumbers() {
		l = append(l, `{"textDocument":{"uri":"a"},"position":{"line":`+v+`,"character":3}}`, `{"textDocument":{"uri":"a"},"position":{"line":0,"character":`+v+`}}`)
	}
	return append(l, `{"textDocument":{"uri":"a"},"position":{"line":0}}`, `{"textDocument":{"uri":"a"},"position":{"character":3}}`, `{"textDocument":{"uri":"a"},"position":[0,3]}`)
}

func TestNotHovered(t *testing.T) {
	s := awake(t, fine)
	for _, params := range notHovers() {
		talks(t, s, says{request(`"h"`, "textDocument/hover", params), fault(`"h"`, -32602)})
	}
	// What stands beside the parameters says nothing.
	talks(t, s, says{
		request("1", "textDocument/hover", `{"x":0,"position":{"z":[],"character":3,"line":0},"textDocument":{"version":null,"uri":"\u0061"}}`),
		result("1", hovered("f(x: int) -> int", bounds(0, 3, 0, 4))),
	}, says{strings.Replace(hover("2", "nobody", 0, 3), `"position"`, `"workDoneToken":1,"position"`, 1), result("2", "null")})
}
