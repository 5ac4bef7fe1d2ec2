package check_test

import (
	"cmp"
	"math/rand"
	"slices"
	"strconv"
	"testing"

	"whetstone/api"
	"whetstone/base"
	"whetstone/check"
	"whetstone/gen"
	"whetstone/lex"
)

// message is that of an error.
func message(e api.Errno) string {
	l := map[api.Errno]string{
		api.ErrToken:  "no token begins here",
		api.ErrBig:    "too long, or too great",
		api.ErrEnds:   "something is missing at the end",
		api.ErrExpect: "unexpected",
		api.ErrDeep:   "too deep",
		api.ErrMore:   "something stands behind the end",
		api.ErrName:   "unknown name",
		api.ErrTwice:  "this name is there already",
		api.ErrType:   "another type must stand here",
		api.ErrArgs:   "more or fewer arguments than parameters",
		api.ErrPred:   "this may not be in a predicate",
	}
	if s, there := l[e]; there {
		return s
	}
	return "error " + strconv.Itoa(int(e))
}

// TestErrors: each error's message, and its code.
func TestErrors(t *testing.T) {
	s := span{From: 3, To: 5}
	for e := api.Errno(-2); e < 40; e++ {
		want := diag{Span: span{From: 13, To: 15}, Code: api.CodeSyntax, Text: message(e)}
		if got := check.SyntaxDiag(10, s, e); got != want {
			t.Errorf("got %v, not %v", got, want)
		}
		want.Code = api.CodeType
		if e == api.ErrName || e == api.ErrTwice {
			want.Code = api.CodeName
		}
		if got := check.TypeDiag(10, base.Fault{Item: 7, Span: s, E: e}); got != want {
			t.Errorf("got %v, not %v", got, want)
		}
	}
}

// TestCodes: each code's message.
func TestCodes(t *testing.T) {
	for code, text := range map[int]string{
		api.CodeAssert: "this may not hold",
		api.CodeBound:  "this may be out of bounds",
		api.CodeZero:   "this may divide by 0",
		api.CodeCall:   "this argument may not be as the parameter asks",
		api.CodeResult: "the result may not be as the function says",
	} {
		want := diag{Span: span{From: 103, To: 104}, Code: code, Text: text}
		if got := check.ConsDiag(100, gen.Cons{Fn: "f", Code: code, Span: span{From: 3, To: 4}}); got != want {
			t.Errorf("got %v, not %v", got, want)
		}
	}
	check.ConsDiag(-1, gen.Cons{Code: 99})
}

// TestShift: back and forth.
func TestShift(t *testing.T) {
	if got := check.Shift(span{From: 2, To: 7}, 3); got != (span{From: 5, To: 10}) {
		t.Error(got)
	}
	if got := check.Shift(span{From: 2, To: 7}, -2); got != (span{From: 0, To: 5}) {
		t.Error(got)
	}
	if got := check.Shift(span{}, 0); got != (span{}) {
		t.Error(got)
	}
}

// TestSpans: layer 8's items.
func TestSpans(t *testing.T) {
	want := []span{{From: 0, To: 2}, {From: 2, To: 10}, {From: 10, To: 12}}
	if got := check.Spans([]byte("a; // ;\nb;c ")); !slices.Equal(got, want) {
		t.Error(got)
	}
	for _, s := range []string{"", " ", "// a;"} {
		if got := check.Spans([]byte(s)); len(got) != 0 {
			t.Errorf("%q: %v", s, got)
		}
	}
	m := rand.New(rand.NewSource(3))
	for range 2000 {
		b := make([]byte, m.Intn(30))
		for i := range b {
			b[i] = "a;/ \n1#"[m.Intn(7)]
		}
		if got := check.Spans(b); !slices.Equal(got, slices.Collect(lex.Items(b))) {
			t.Fatalf("%q: %v", b, got)
		}
	}
}

// TestSorted: by each part of a Diag, those ahead being the same; each once.
func TestSorted(t *testing.T) {
	made := func(from, to, code int, text string) diag {
		return diag{Span: span{From: from, To: to}, Code: code, Text: text}
	}
	want := []diag{made(-1, 9, 9, "z"), made(0, 0, 0, ""), made(0, 1, 14, "b"), made(0, 2, 3, "a"), made(0, 2, 10, ""), made(0, 2, 10, "a"), made(0, 2, 10, "aa"), made(0, 2, 10, "b"), made(0, 2, 11, "a"), made(2, 1, 1, "a"), made(10, 11, 1, "a")}
	m := rand.New(rand.NewSource(4))
	for range 500 {
		l := slices.Clone(want)
		for range m.Intn(6) {
			l = append(l, want[m.Intn(len(want))])
		}
		m.Shuffle(len(l), func(i, j int) { l[i], l[j] = l[j], l[i] })
		l = append(l, made(77, 77, 77, "mark"))[:len(l)]
		before := slices.Clone(l[:len(l)+1])
		got := check.Sorted(l)
		if !slices.Equal(got, want) {
			t.Fatalf("%v: got %v", l, got)
		}
		for i := range got {
			got[i] = diag{}
		}
		_ = append(got, diag{}, diag{})
		if !slices.Equal(l[:len(l)+1], before) {
			t.Fatal("what is handed in is changed")
		}
	}
	if len(check.Sorted(nil)) != 0 || len(check.Sorted([]diag{})) != 0 {
		t.Error("of none something is told")
	}
	if got := check.Sorted([]diag{{Code: 1}}); !slices.Equal(got, []diag{{Code: 1}}) {
		t.Error(got)
	}
}

// TestSortedDrawn: in order, without one twice, and all that was there.
func TestSortedDrawn(t *testing.T) {
	m := rand.New(rand.NewSource(5))
	for range 1000 {
		var l []diag
		for range m.Intn(20) {
			l = append(l, diag{Span: span{From: m.Intn(3), To: m.Intn(3)}, Code: m.Intn(3), Text: []string{"", "a", "b"}[m.Intn(3)]})
		}
		got := check.Sorted(l)
		for i, d := range got {
			if !slices.Contains(l, d) {
				t.Fatal("there is no such one:", d)
			}
			if i > 0 && !isAhead(got[i-1], d) {
				t.Fatal("not in order:", got)
			}
		}
		for _, d := range l {
			if !slices.Contains(got, d) {
				t.Fatal("one is left out:", d)
			}
		}
	}
}

func isAhead(a, b diag) bool {
	switch {
	case a.Span.From != b.Span.From:
		return a.Span.From < b.Span.From
	case a.Span.To != b.Span.To:
		return a.Span.To < b.Span.To
	case a.Code != b.Code:
		return a.Code < b.Code
	}
	return cmp.Less(a.Text, b.Text)
}

// TestHover: the first Sig that the byte stands in, or at the end of.
func TestHover(t *testing.T) {
	r := check.Report{Sigs: []check.Sig{
		{At: span{From: 3, To: 5}, Text: "a"}, {At: span{From: 5, To: 8}, Text: "b"}, {At: span{From: 20, To: 20}, Text: "c"}, {At: span{From: 4, To: 30}, Text: "d"},
	}}
	for at, want := range map[int]string{-1: "", 0: "", 2: "", 3: "a", 4: "a", 5: "a", 6: "b", 7: "b", 8: "b", 9: "d", 19: "d", 20: "c", 21: "d", 30: "d", 31: "", 1 << 40: ""} {
		got, there := r.Hover(at)
		if got.Text != want || there != (want != "") || !there && got != (check.Sig{}) {
			t.Errorf("%d: got %v, %v", at, got, there)
		}
	}
	if got, there := (check.Report{}).Hover(0); there || got != (check.Sig{}) {
		t.Error(got)
	}
	s := "qual q(a) = a > 0;\nfn long(x: int) -> int = x; fn f() -> int = long(1);"
	r = check.Check([]byte(s))
	for at := range len(s) + 2 {
		want := ""
		switch {
		case 22 <= at && at <= 26:
			want = "long(x: int{v > 0}) -> int{v > 0}"
		case 50 <= at && at <= 51:
			want = "f() -> int{v > 0}"
		}
		if got, _ := r.Hover(at); got.Text != want {
			t.Errorf("%d: got %v, not %v", at, got, want)
		}
	}
}
