package session_test

import (
	"fmt"
	"strings"
	"testing"

	"whetstone/api"
	"whetstone/session"
)

func opens(t *testing.T, s *session.Server, want ...string) {
	t.Helper()
	if got := s.Open(); fmt.Sprintf("%q", got) != fmt.Sprintf("%q", want) {
		t.Errorf("open: %q, not %q", got, want)
	}
}

func TestOpen(t *testing.T) {
	s := awake(t)
	opens(t, s)
	talks(t, s, says{didOpen("a", 1, zero), published("a", 1, zeroDiag())})
	textIs(t, s, "a", zero)
	talks(t, s, says{didOpen("", -999999999, ""), published("", -999999999)})
	textIs(t, s, "", "")
	talks(t, s, says{didOpen("A\n\"\\\b\f\r\t\x01\x7f/\u20ac\U0001f600\u2028", 999999999, fine), published("A\n\"\\\b\f\r\t\x01\x7f/\u20ac\U0001f600\u2028", 999999999)})
	opens(t, s, "a", "", "A\n\"\\\b\f\r\t\x01\x7f/\u20ac\U0001f600\u2028")
	// Escapes are letters, in any order of keys, and what stands beside them says nothing.
	talks(t, s, says{
		` {"params" : {"x":[],"textDocument":{"text":"fn f() -> int\u0020= 1\n\/ 0; \/\/ \ud83d\ude00","languageId":"w","version":0,"uri":"\u0061","y":null}},"method":"textDocument\/didOpen","z":0,"jsonrpc":"2.0"}` + "\n",
		published("a", 0, diag(bounds(0, 16, 1, 3), 12, "this may divide by 0")),
	})
	textIs(t, s, "a", "fn f() -> int = 1\n/ 0; // \U0001f600")
	for _, uri := range []string{"b", "A", "a ", "\u0000"} {
		if b, there := s.Text(uri); there || len(b) != 0 {
			t.Errorf("%q isn't open: %q", uri, b)
		}
	}
}

// TestOpenAgain: a document that is open has another text, and its place among the others.
func TestOpenAgain(t *testing.T) {
	s := awake(t, fine, zero, fine)
	talks(t, s,
		says{didOpen("b", 9, fine), published("b", 9)},
		says{didOpen("a", 1, zero), published("a", 1, zeroDiag())},
		says{didOpen("a", 1, zero), published("a", 1, zeroDiag())},
		says{didOpen("c", -3, ""), published("c", -3)},
		says{hover("1", "b", 0, 3), result("1", hovered("f(x: int) -> int", bounds(0, 3, 0, 4)))},
		says{hover("2", "c", 0, 3), result("2", "null")})
	opens(t, s, "a", "b", "c")
	textIs(t, s, "a", zero)
	textIs(t, s, "b", fine)
	textIs(t, s, "c", "")
}

// notOpens are parameters that aren't as didOpen's must be.
func notOpens() []string {
	l := []string{
		"", "{}", "[]", `[{"uri":"n","version":1,"text":""}]`, `{"uri":"n","version":1,"text":""}`, `{"textDocument":"n"}`, `{"textDocument":[]}`, `{"textDocument":null}`,
		`{"textdocument":{"uri":"n","version":1,"text":""}}`, `{"textDocument":[{"uri":"n","version":1,"text":""}]}`, `{"textDocument":{"uri":"n","version":1},"text":""}`,
		`{"textDocument":{"uri":"n","version":1}}`, `{"textDocument":{"uri":"n","text":""}}`, `{"textDocument":{"version":1,"text":""}}`, `{"textDocument":{"Uri":"n","version":1,"text":""}}`,
	}
	for _, v := range []string{"1", "null", "true", "[]", `["n"]`, `{}`, `{"uri":"n"}`} {
		l = append(l, `{"textDocument":{"uri":`+v+`,"version":1,"text":""}}`, `{"textDocument":{"uri":"n","version":1,"text":`+v+`}}`)
	}
	for _, v := range notNumbers() {
		l = append(l, `{"textDocument":{"uri":"n","version":`+v+`,"text":""}}`)
	}
	return l
}

func TestNotOpened(t *testing.T) {
	s := awake(t, fine)
	for _, params := range notOpens() {
		for _, uri := range []string{"n", "a"} {
			talks(t, s, says{notice("textDocument/didOpen", strings.ReplaceAll(params, `"n"`, quoted(uri))), ""})
		}
	}
	opens(t, s, "a")
	textIs(t, s, "a", fine)
}

// TestOpenTooLong: a text that is no document's is nothing, and the one that is there stays.
func TestOpenTooLong(t *testing.T) {
	s := awake(t, fine)
	long := strings.Repeat(" ", api.MaxText)
	talks(t, s, says{didOpen("a", 2, long+" "), ""}, says{didOpen("b", 2, long+" "), ""}, says{didOpen("c", 2, strings.Repeat("\u20ac", api.MaxText/3+1)), ""})
	opens(t, s, "a")
	textIs(t, s, "a", fine)
	talks(t, s, says{hover("1", "a", 0, 3), result("1", hovered("f(x: int) -> int", bounds(0, 3, 0, 4)))})
	talks(t, s, says{didOpen("b", 2, long), published("b", 2)}, says{didOpen("a", 2, long[1:]), published("a", 2)})
	opens(t, s, "a", "b")
	textIs(t, s, "b", long)
}

func TestMostDocuments(t *testing.T) {
	s := awake(t)
	var names []string
	for i := range api.MaxDocs {
		names = append(names, fmt.Sprint("d", i))
		talks(t, s, says{didOpen(names[i], i, zero), published(names[i], i, zeroDiag())})
	}
	for range 2 {
		talks(t, s, says{didOpen("more", 1, fine), ""}, says{didChange("more", 2, whole("")), ""}, says{didClose("more"), ""}, says{hover("1", "more", 0, 3), result("1", "null")})
		opens(t, s, names...)
	}
	// Those that are open may be opened again.
	talks(t, s, says{didOpen("d7", 8, fine), published("d7", 8)}, says{didOpen("d63", 9, fine), published("d63", 9)})
	opens(t, s, names...)
	// And where one is closed, another one has room, behind all others.
	talks(t, s, says{didClose("d7"), cleared("d7")}, says{didOpen("more", 1, fine), published("more", 1)}, says{didOpen("d7", 1, fine), ""})
	names = append(append(append([]string{}, names[:7]...), names[8:]...), "more")
	opens(t, s, names...)
	for i, name := range names {
		talks(t, s, says{didClose(name), cleared(name)})
		opens(t, s, names[i+1:]...)
	}
	talks(t, s, says{didOpen("d7", 1, fine), published("d7", 1)})
	opens(t, s, "d7")
}

func TestChange(t *testing.T) {
	s := awake(t, fine)
	for i, x := range []struct {
		changes []string
		text    string
		diags   []string
	}{
		{[]string{whole(zero)}, zero, []string{zeroDiag()}},
		{[]string{ranged(0, 20, 0, 21, "7")}, "fn f() -> int = 1 / 7;", nil},
		{[]string{ranged(0, 0, 0, 0, "// \U0001f600 \u20ac\r\n"), ranged(1, 20, 1, 21, "(1 - 1)")}, "// \U0001f600 \u20ac\r\nfn f() -> int = 1 / (1 - 1);", []string{diag(bounds(1, 16, 1, 27), 12, "this may divide by 0")}},
		{[]string{ranged(0, 3, 0, 5, "x"), ranged(0, 5, 1, 0, ";")}, "// x ;fn f() -> int = 1 / (1 - 1);", nil},
		{[]string{ranged(0, 0, 0, 6, ""), ranged(0, 16, 0, 16, "\"")}, "fn f() -> int = \"1 / (1 - 1);", []string{diag(bounds(0, 16, 0, 17), 1, "no token begins here")}},
		{[]string{ranged(0, 17, 0, 16, "# ")}, "fn f() -> int = \"# 1 / (1 - 1);", []string{diag(bounds(0, 16, 0, 17), 1, "no token begins here")}},
		{[]string{ranged(-3, 7, -1, 9, " "), ranged(99, 0, 99, 9, "\n")}, " fn f() -> int = \"# 1 / (1 - 1);\n", []string{diag(bounds(0, 17, 0, 18), 1, "no token begins here")}},
		{nil, " fn f() -> int = \"# 1 / (1 - 1);\n", []string{diag(bounds(0, 17, 0, 18), 1, "no token begins here")}},
		{[]string{whole(""), whole("fn f() -> int = g();"), ranged(0, 16, 0, 17, "h")}, "fn f() -> int = h();", []string{diag(bounds(0, 16, 0, 19), 2, "unknown name")}},
		{[]string{whole("")}, "", nil},
		{[]string{ranged(5, 5, 0, 0, fine)}, fine, nil},
	} {
		talks(t, s, says{didChange("a", 10-i, x.changes...), published("a", 10-i, x.diags...)})
		textIs(t, s, "a", x.text)
	}
	opens(t, s, "a")
}

// TestChangeOfOthers: what stands beside what is told says nothing, and other documents stay.
func TestChangeOfOthers(t *testing.T) {
	s := awake(t, fine, fine)
	talks(t, s, says{
		`{"method":"textDocument/didChange","jsonrpc":"2.0","params":{"contentChanges":[{"rangeLength":1,"text":"\u0030","range":{"end":{"character":23,"line":0,"x":1},"start":{"line":0,"character":22},"z":[]}},{"text":"","range":{"start":{"line":0,"character":0},"end":{"line":0,"character":0}}}],"textDocument":{"text":7,"version":2,"uri":"b"}}}`,
		published("b", 2),
	})
	textIs(t, s, "a", fine)
	textIs(t, s, "b", "fn f(x: int) -> int = 0;")
	talks(t, s, says{didChange("c", 2, whole("")), ""}, says{didChange("", 2), ""}, says{didChange("A", 2, whole(zero)), ""})
	opens(t, s, "a", "b")
	textIs(t, s, "a", fine)
}

// notChanges are changes that aren't as they must be.
func notChanges() []string {
	l := []string{"null", "1", `"x"`, "[]", "{}", `{"range":` + bounds(0, 0, 0, 1) + `}`, `{"Text":"x"}`, `[{"text":"x"}]`}
	for _, v := range []string{"1", "null", "true", "[]", "{}", `["x"]`} {
		l = append(l, `{"text":`+v+`}`, `{"range":`+bounds(0, 0, 0, 1)+`,"text":`+v+`}`)
	}
	for _, v := range []string{
		"null", "1", `"x"`, "[]", "{}", "true", position(0, 0), `{"start":` + position(0, 0) + `}`, `{"end":` + position(0, 0) + `}`, `{"start":` + position(0, 0) + `,"end":null}`, `{"start":[0,0],"end":` + position(0, 0) + `}`,
		`[` + position(0, 0) + `,` + position(0, 0) + `]`, `{"start":{"line":0},"end":` + position(0, 0) + `}`, `{"start":` + position(0, 0) + `,"end":{"character":0}}`,
	} {
		l = append(l, `{"range":`+v+`,"text":"x"}`)
	}
	for _, v := range notNumbers() {
		l = append(l, `{"range":{"start":{"line":`+v+`,"character":0},"end":`+position(0, 0)+`},"text":"x"}`, `{"range":{"start":`+position(0, 0)+`,"end":{"line":0,"character":`+v+`}},"text":"x"}`)
	}
	return l
}

// notTargets are parameters, behind others, that don't tell a document and a version.
func notTargets() []string {
	l := []string{
		"", `,"uri":"a","version":2`, `,"textDocument":"a"`, `,"textDocument":["a",2]`, `,"textDocument":null`, `,"textdocument":{"uri":"a","version":2}`, `,"textDocument":[{"uri":"a","version":2}]`,
		`,"textDocument":{"uri":"a"}`, `,"textDocument":{"version":2}`, `,"textDocument":{"uri":"a"},"version":2`, `,"textDocument":{"Uri":"a","version":2}`,
	}
	for _, v := range []string{"1", "null", "true", "[]", `["a"]`, `{}`, `"A"`, `"a "`} {
		l = append(l, `,"textDocument":{"uri":`+v+`,"version":2}`)
	}
	for _, v := range notNumbers() {
		l = append(l, `,"textDocument":{"uri":"a","version":`+v+`}`)
	}
	return l
}

// notNumbers are values that json.Int doesn't take.
func notNumbers() []string {
	return []string{`"1"`, "null", "true", "1.0", "1e0", "0.5", "-0", "1000000000", "-1000000000", "99999999999999999999", "[1]", "{}"}
}

func TestNotChanged(t *testing.T) {
	s := awake(t, fine, zero)
	for _, x := range notChanges() {
		talks(t, s, says{didChange("a", 2, x), ""}, says{didChange("a", 2, whole("z"), x), ""}, says{didChange("a", 2, x, ranged(0, 0, 0, 1, "z")), ""})
	}
	for _, x := range notTargets() {
		talks(t, s, says{notice("textDocument/didChange", `{"contentChanges":[`+whole("z")+`]`+x+`}`), ""})
	}
	for _, v := range []string{"", `,"contentChanges":null`, `,"contentChanges":{}`, `,"contentChanges":` + whole("z"), `,"contentChanges":"z"`, `,"contentchanges":[` + whole("z") + `]`, `,"changes":[` + whole("z") + `]`} {
		talks(t, s, says{notice("textDocument/didChange", `{"textDocument":{"uri":"a","version":2}`+v+`}`), ""})
	}
	all(t, s, "", notice("textDocument/didChange", ""), notice("textDocument/didChange", "[]"), notice("textDocument/didChange", `[{"textDocument":{"uri":"a","version":2},"contentChanges":[]}]`))
	textIs(t, s, "a", fine)
	textIs(t, s, "b", zero)
	talks(t, s, says{hover("1", "a", 0, 3), result("1", hovered("f(x: int) -> int", bounds(0, 3, 0, 4)))})
}

// TestChangeTooLong: a change that layer 7 doesn't take is nothing, with all beside it.
func TestChangeTooLong(t *testing.T) {
	s := awake(t, fine)
	long := strings.Repeat(" ", api.MaxText-len(fine))
	talks(t, s,
		says{didChange("a", 2, ranged(0, 0, 0, 0, long+" ")), ""},
		says{didChange("a", 2, whole("x"), whole(long+fine+"x")), ""},
		says{didChange("a", 2, whole(long+fine+"x"), whole("x")), ""})
	textIs(t, s, "a", fine)
	talks(t, s, says{hover("1", "a", 0, 3), result("1", hovered("f(x: int) -> int", bounds(0, 3, 0, 4)))})
	talks(t, s, says{didChange("a", 2, ranged(0, 0, 0, 0, long)), published("a", 2)}, says{didChange("a", 3, ranged(0, 0, 0, 0, " ")), ""})
	textIs(t, s, "a", long+fine)
	talks(t, s, says{hover("1", "a", 0, len(long)+3), result("1", hovered("f(x: int) -> int", bounds(0, len(long)+3, 0, len(long)+4)))})
}

func TestClose(t *testing.T) {
	s := awake(t, fine, zero, fine)
	talks(t, s, says{didClose("b"), cleared("b")})
	opens(t, s, "a", "c")
	if b, there := s.Text("b"); there || len(b) != 0 {
		t.Errorf("b is closed: %q", b)
	}
	talks(t, s,
		says{didClose("b"), ""},
		says{didClose("nobody"), ""},
		says{didChange("b", 2, whole(fine)), ""},
		says{hover("1", "b", 0, 3), result("1", "null")},
		says{hover("1", "c", 0, 3), result("1", hovered("f(x: int) -> int", bounds(0, 3, 0, 4)))},
		says{didOpen("b", 1, fine), published("b", 1)},
		says{hover("1", "b", 0, 3), result("1", hovered("f(x: int) -> int", bounds(0, 3, 0, 4)))})
	opens(t, s, "a", "c", "b")
	// What stands beside the uri says nothing.
	talks(t, s, says{notice("textDocument/didClose", `{"a":1,"textDocument":{"version":null,"uri":"\u0061"}}`), cleared("a")}, says{didClose("c"), cleared("c")}, says{didClose("b"), cleared("b")}, says{didClose("b"), ""})
	opens(t, s)
}

func TestNotClosed(t *testing.T) {
	s := awake(t, fine)
	for _, params := range []string{
		"", "{}", "[]", `["a"]`, `{"uri":"a"}`, `{"textDocument":"a"}`, `{"textDocument":["a"]}`, `{"textDocument":{}}`, `{"textDocument":{"uri":null}}`, `{"textDocument":{"uri":["a"]}}`, `{"textDocument":{"Uri":"a"}}`,
		`{"textdocument":{"uri":"a"}}`, `[{"textDocument":{"uri":"a"}}]`, `{"textDocument":{"uri":1}}`, `{"textDocument":{"uri":{"uri":"a"}}}`, `{"textDocument":{"uri":"a "}}`, `{"textDocument":{"uri":"A"}}`,
	} {
		talks(t, s, says{notice("textDocument/didClose", params), ""})
	}
	opens(t, s, "a")
	textIs(t, s, "a", fine)
}

// TestNamedNothing: a document whose name has no letter isn't meant where no name is told.
func TestNamedNothing(t *testing.T) {
	s := awake(t)
	talks(t, s, says{didOpen("", 1, fine), published("", 1)})
	for _, v := range []string{"", `"uri":null,`, `"uri":1,`, `"uri":[],`, `"uri":{},`, `"uri":false,`} {
		at := `{"textDocument":{` + v + `"version":1,"text":"x"},"contentChanges":[` + whole("x") + `],"position":` + position(0, 3) + `}`
		all(t, s, "", notice("textDocument/didOpen", at), notice("textDocument/didChange", at), notice("textDocument/didClose", at))
		all(t, s, fault("1", -32602), request("1", "textDocument/hover", at))
	}
	opens(t, s, "")
	textIs(t, s, "", fine)
	talks(t, s, says{hover("1", "", 0, 3), result("1", hovered("f(x: int) -> int", bounds(0, 3, 0, 4)))}, says{didChange("", 2, whole("")), published("", 2)}, says{didClose(""), cleared("")})
	opens(t, s)
}

// TestDiagnosticsInOrder: each Diag of the report, in its order, with its positions.
func TestDiagnosticsInOrder(t *testing.T) {
	s := awake(t)
	for _, x := range []struct {
		text  string
		diags []string
	}{
		{"// \U0001f600\nqual p(a) = a >= 0;\r\nfn f(", []string{diag(bounds(2, 5, 2, 5), 1, "something is missing at the end")}},
		{"fn f(x: int) -> int = 1 / x + 1 % x;\r// \U0001f600\U0001f600\n fn g(a: arr 3, i: int) -> int{v > 0} = assert i > 2 in get(a, i) +\nf(\n0);", []string{
			diag(bounds(0, 22, 0, 27), 12, "this may divide by 0"), diag(bounds(0, 30, 0, 35), 12, "this may divide by 0"),
			diag(bounds(2, 40, 4, 2), 14, "the result may not be as the function says"), diag(bounds(2, 47, 2, 52), 10, "this may not hold"),
			diag(bounds(2, 56, 2, 65), 11, "this may be out of bounds"),
		}},
		{"fn a() -> int = true; // \u20ac\nfn b() -> int = c(1);\nfn b() -> bool = 1;", []string{
			diag(bounds(0, 16, 0, 20), 3, "another type must stand here"), diag(bounds(1, 16, 1, 20), 2, "unknown name"), diag(bounds(2, 3, 2, 4), 2, "this name is there already"),
		}},
		{"fn a( -> int = 1; # ;\n\n fn b() int = 1;", []string{
			diag(bounds(0, 6, 0, 8), 1, "unexpected"), diag(bounds(0, 18, 0, 19), 1, "no token begins here"), diag(bounds(2, 8, 2, 11), 1, "unexpected"),
		}},
		{"fn a(x: int{v > 0}) -> int = x;\rfn b() -> int = a(0);", []string{diag(bounds(1, 18, 1, 19), 13, "this argument may not be as the parameter asks")}},
		{strings.Repeat(";", api.MaxItems) + "\n;", []string{diag(bounds(0, api.MaxItems, 1, 1), 1, "too long, or too great")}},
		{"", nil},
		{" // nothing", nil},
	} {
		talks(t, s, says{didOpen("a", 1, x.text), published("a", 1, x.diags...)})
	}
}
