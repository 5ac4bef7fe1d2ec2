package check_test

import (
	"slices"
	"strings"
	"testing"

	"whetstone/api"
	"whetstone/check"
)

// TestExamples are the chapter's own ones.
func TestExamples(t *testing.T) {
	r := check.Check([]byte("fn f(x: int) -> int = 1 / x;"))
	if want := (diag{Span: span{From: 22, To: 27}, Code: api.CodeZero, Text: "this may divide by 0"}); !slices.Equal(r.Diags, []diag{want}) {
		t.Error(r.Diags)
	}
	if want := (check.Sig{At: span{From: 3, To: 4}, Text: "f(x: int) -> int"}); !slices.Equal(r.Sigs, []check.Sig{want}) {
		t.Error(r.Sigs)
	}
	reports(t, "fn f(x: int{v != 0}) -> int = 1 / x;", "f(x: int{v != 0}) -> int")
	diagnoses(t, "fn f() -> int = g();", diag{Span: span{From: 16, To: 19}, Code: api.CodeName, Text: "unknown name"})
}

// TestNothing: a text without items.
func TestNothing(t *testing.T) {
	for _, s := range []string{"", " \n\t\r", "// fn f", "// a\n  // b;\n"} {
		reports(t, s)
	}
	r := check.Check(nil)
	if len(r.Diags) != 0 || len(r.Sigs) != 0 {
		t.Error(r)
	}
}

// TestItemsInAll: so many, and not one more.
func TestItemsInAll(t *testing.T) {
	const fn = "pub fn f%d() -> int = 1; "
	r := check.Check([]byte(texts(api.MaxItems, fn)))
	if len(r.Diags) != 0 || len(r.Sigs) != api.MaxItems || r.Sigs[199].Text != "f199() -> int" {
		t.Error(r.Diags, len(r.Sigs))
	}
	s := texts(api.MaxItems, fn)
	// The Span is the whole item's, what stands ahead of it too, whatever it is.
	at := len(s) - 1
	diagnoses(t, s+"fn g() -> int = 1;", diag{Span: span{From: at, To: len(s) + 18}, Code: api.CodeSyntax, Text: "too long, or too great"})
	diagnoses(t, s+"#", diag{Span: span{From: at, To: len(s) + 1}, Code: api.CodeSyntax, Text: "too long, or too great"})
	diagnoses(t, s+"// no\n;;;#", diag{Span: span{From: at, To: len(s) + 7}, Code: api.CodeSyntax, Text: "too long, or too great"})
	reports(t, s+" // no item", told(s, r)...)
	// It is told ahead of what is wrong with others.
	s = texts(api.MaxItems, "#%d;")
	diagnoses(t, s+";", diag{Span: span{From: len(s), To: len(s) + 1}, Code: api.CodeSyntax, Text: "too long, or too great"})
	if r = check.Check([]byte(s)); len(r.Diags) != api.MaxItems {
		t.Error(len(r.Diags))
	}
}

// TestSyntax: each item that isn't read, and the messages.
func TestSyntax(t *testing.T) {
	for _, c := range []struct {
		s        string
		from, to int
		text     string
	}{
		{"fn f() -> int = #;", 16, 17, "no token begins here"},
		{"fn f() -> int = 1", 17, 17, "something is missing at the end"},
		{"fn f() -> int = ;", 16, 17, "unexpected"},
		{"fn f() -> int = 1 2;", 18, 19, "unexpected"},
		{"fn f() -> int = " + strings.Repeat("9", 41) + ";", 16, 17, "too long, or too great"},
		{"fn f(a: arr 1000001) -> int = 1;", 12, 19, "too long, or too great"},
		{"fn f() -> int = " + strings.Repeat("-", 70) + "1;", 75, 76, "too deep"},
		{"fn f() -> int = 007;", 16, 19, "error 6"},
		{";", 0, 1, "unexpected"},
	} {
		diagnoses(t, c.s, diag{Span: span{From: c.from, To: c.to}, Code: api.CodeSyntax, Text: c.text})
	}
	// Where items stand in the text; in the order of the text; those that are read are
	// nothing; names and types aren't looked at.
	diagnoses(t, "fn f() -> int = g();\n fn g( -> int;fn h() -> int = ; // x\nqual",
		diag{Span: span{From: 28, To: 30}, Code: api.CodeSyntax, Text: "unexpected"},
		diag{Span: span{From: 51, To: 52}, Code: api.CodeSyntax, Text: "unexpected"},
		diag{Span: span{From: 62, To: 62}, Code: api.CodeSyntax, Text: "something is missing at the end"})
}

// TestNamesAndTypes: each item that isn't right, and the messages.
func TestNamesAndTypes(t *testing.T) {
	for _, c := range []struct {
		s    string
		at   string // the text of the Span, from its last place on
		code int
		text string
	}{
		{"fn f() -> int = x;", "x", api.CodeName, "unknown name"},
		{"fn f() -> int = 1; fn f() -> int = 2;", "f", api.CodeName, "this name is there already"},
		{"fn f(x: int, x: int) -> int = 1;", "x", api.CodeName, "this name is there already"},
		{"fn f() -> int = true;", "true", api.CodeType, "another type must stand here"},
		{"fn f() -> int = f(1);", "f(1)", api.CodeType, "more or fewer arguments than parameters"},
		{"fn f(x: int{v / 2 = 1}) -> int = 1;", "v / 2", api.CodeType, "this may not be in a predicate"},
		{"qual q(a) = v;", "v", api.CodeName, "unknown name"},
	} {
		from := strings.LastIndex(c.s, c.at)
		if c.code == api.CodeName && c.text != "unknown name" {
			from = strings.LastIndex(c.s, c.at+":")
			if from < 0 {
				from = strings.LastIndex(c.s, c.at+"(")
			}
		}
		diagnoses(t, c.s, diag{Span: span{From: from, To: from + len(c.at)}, Code: c.code, Text: c.text})
	}
	// Several items; what functions do isn't looked at.
	diagnoses(t, "fn f() -> int = 1 / 0;\nfn g() -> int = h();// ;\nqual q(a) = a;",
		diag{Span: span{From: 39, To: 42}, Code: api.CodeName, Text: "unknown name"},
		diag{Span: span{From: 60, To: 61}, Code: api.CodeType, Text: "another type must stand here"})
	// An item that isn't right may be called.
	diagnoses(t, "fn f() -> int = x; fn g() -> int = f();",
		diag{Span: span{From: 16, To: 17}, Code: api.CodeName, Text: "unknown name"})
}

// TestConditions: each code, and its message.
func TestConditions(t *testing.T) {
	for _, c := range []struct {
		s, at string
		code  int
		text  string
	}{
		{"pub fn f(x: int) -> int = assert x > 0 in x;", "x > 0", api.CodeAssert, "this may not hold"},
		{"pub fn f(a: arr 3, i: int{v >= 0}) -> int = get(a, i);", "get(a, i)", api.CodeBound, "this may be out of bounds"},
		{"pub fn f(a: arr 3, i: int{v < 3}) -> arr 3 = set(a, i, 1);", "set(a, i, 1)", api.CodeBound, "this may be out of bounds"},
		{"pub fn f(x: int{v >= 0}) -> int = 7 % x;", "7 % x", api.CodeZero, "this may divide by 0"},
		{"fn g(x: int{v > 0}) -> int = x; pub fn f(x: int{v >= 0}) -> int = g(x + 0);", "x + 0", api.CodeCall, "this argument may not be as the parameter asks"},
		{"pub fn f(x: int{v >= 0}) -> int{v > 0} = x + 0;", "x + 0", api.CodeResult, "the result may not be as the function says"},
	} {
		from := strings.LastIndex(c.s, c.at)
		r := check.Check([]byte(c.s))
		if want := (diag{Span: span{From: from, To: from + len(c.at)}, Code: c.code, Text: c.text}); !slices.Equal(r.Diags, []diag{want}) {
			t.Errorf("%s\n  got %v\n  not %v", c.s, r.Diags, want)
		}
		if len(r.Sigs) != strings.Count(c.s, "fn ") {
			t.Errorf("%s\n  %v", c.s, r.Sigs)
		}
	}
}

// TestReports: all that is told of a text.
func TestReports(t *testing.T) {
	const loop = "qual p(a) = a >= 0; fn f(x: int) -> int = if x <= 0 then 0 else f(x - 1); "
	reports(t, loop+"pub fn g(n: int{v >= 0}) -> int{v >= 0} = f(n);",
		"f(x: int{v >= 0}) -> int{v >= 0}", "g(n: int{v >= 0}) -> int{v >= 0}")
	reports(t, loop+"pub fn g(n: int) -> int{v > 0} = f(n);",
		"14 `f(n)`", "f(x: int) -> int{v >= 0}", "g(n: int) -> int{v > 0}")
	// Conditions on places to be found are nobody's fault.
	reports(t, "qual p(a) = a > 0; fn f(x: int) -> int = x; pub fn g() -> int = f(0);", "f(x: int) -> int", "g() -> int")
	// What nobody calls is never called.
	reports(t, "qual p(a) = a != 0; fn f(x: int) -> int = 1 / x;", "f(x: int{v != 0}) -> int")
	reports(t, "qual p(a) = a != 0; fn f(x: int) -> int = 1 / x; pub fn g(x: int) -> int = f(x);", "12 `1 / x`", "f(x: int) -> int", "g(x: int) -> int")
	reports(t, "qual p(a) = a != 0; fn f(x: int) -> int = 1 / x; pub fn g(x: int) -> int = if x = 0 then x else f(x);", "f(x: int{v != 0}) -> int", "g(x: int) -> int")
	// Several, in the order of the text.
	reports(t, "pub fn f(x: int, a: arr 2) -> int{v > 0} = let y = 1 / x in assert y > x in get(a, y) / (x - y); pub fn g() -> int = f(1 / 0, fill(2, 0));",
		"14 `let y = 1 / x in assert y > x in get(a, y) / (x - y)`", "12 `1 / x`", "10 `y > x`", "11 `get(a, y)`", "12 `1 / 0`",
		"f(x: int, a: arr 2) -> int{v > 0}", "g() -> int")
	// What was asserted is known from there on.
	reports(t, "pub fn f(x: int) -> int = assert x > 0 in assert x >= 0 in 1 / x;", "10 `x > 0`", "f(x: int) -> int")
	// A function whose arguments can't be.
	reports(t, "pub fn f(x: int{v < v}) -> int{v = 7} = assert false in 1 / 0;", "f(x: int{v < v}) -> int{v = 7}")
	// Qualifiers may stand behind.
	reports(t, "pub fn g(n: int{v > 0}) -> int{v > 0} = f(n); fn f(x: int) -> int = x; qual q(a) = a > 0;",
		"g(n: int{v > 0}) -> int{v > 0}", "f(x: int{v > 0}) -> int{v > 0}")
	reports(t, "qual q(a) = a > 0;")
}

// TestPrograms: what a writer may write.
func TestPrograms(t *testing.T) {
	const quals = "qual nonneg(a) = a >= 0; qual top(a) = a <= 10; qual le(a, b) = a <= b; qual ge(a, b) = a >= b;"
	reports(t, quals+`
		fn search(a: arr 10, key: int, lo: int, hi: int) -> int =
			if lo >= hi then lo else let mid = (lo + hi) / 2 in
			if get(a, mid) < key then search(a, key, mid + 1, hi) else search(a, key, lo, mid);
		pub fn find(a: arr 10, key: int) -> bool =
			let i = search(a, key, 0, len(a)) in if i < len(a) then get(a, i) = key else false;
		fn sum(a: arr 10, i: int, acc: int) -> int = if i >= len(a) then acc else sum(a, i + 1, acc + get(a, i));
		pub fn total(a: arr 10) -> int = sum(a, 0, 0);`,
		"search(a: arr 10, key: int, lo: int{v >= 0 and v <= 10}, hi: int{v >= 0 and v <= 10 and v >= lo}) -> int{v >= 0 and v <= 10 and v <= hi and v >= lo}",
		"find(a: arr 10, key: int) -> bool",
		"sum(a: arr 10, i: int{v >= 0 and v <= 10}, acc: int) -> int",
		"total(a: arr 10) -> int")
	reports(t, quals+`
		fn swap(a: arr 10, i: int{0 <= v and v < 10}, j: int{0 <= v and v < 10}) -> arr 10 = let x = get(a, i) in let y = get(a, j) in set(set(a, i, y), j, x);
		fn turn(a: arr 10, i: int, j: int) -> arr 10 = if i >= j then a else turn(swap(a, i, j), i + 1, j);
		pub fn main(a: arr 10) -> arr 10 = turn(a, 0, 10);`,
		"13 `j`",
		"swap(a: arr 10, i: int{0 <= v and v < 10}, j: int{0 <= v and v < 10}) -> arr 10",
		"turn(a: arr 10, i: int{v >= 0 and v <= 10}, j: int{v >= 0 and v <= 10 and v >= i}) -> arr 10",
		"main(a: arr 10) -> arr 10")
}
