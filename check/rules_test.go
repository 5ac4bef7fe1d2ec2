package check_test

import (
	"math/rand"
	"reflect"
	"slices"
	"strings"
	"sync"
	"testing"

	"whetstone/api"
	"whetstone/base"
	"whetstone/check"
	"whetstone/gen"
	"whetstone/horn"
	"whetstone/linear"
	"whetstone/syntax"
)

// soup is any tokens.
func soup(m *rand.Rand) string {
	words := strings.Fields("fn qual pub let in if then else assert true false int bool arr v get set len fill not and or ( ) { } , ; : = -> + * / % < >= != x f 0 1 99 # // \x00 \xff \u20ac")
	var l []string
	for range m.Intn(60) {
		l = append(l, words[m.Intn(len(words))])
	}
	return strings.Join(l, []string{"", " ", "\n"}[m.Intn(3)])
}

// TestAnyBytes: nothing panics; what is told is of the text, and in order.
func TestAnyBytes(t *testing.T) {
	m := rand.New(rand.NewSource(6))
	for n := range 12000 {
		var b []byte
		switch n % 3 {
		case 0:
			b = make([]byte, m.Intn(60))
			m.Read(b)
		case 1:
			b = []byte(soup(m))
		default:
			b = []byte(newMaker(int64(n)).text())
			for range 1 + m.Intn(3) {
				b[m.Intn(len(b))] = "fx10v;(){}=-/ ,\n#"[m.Intn(17)]
			}
			b = b[:m.Intn(len(b)+1)]
		}
		r := check.Check(b)
		for i, d := range r.Diags {
			if d.Span.From < 0 || d.Span.To < d.Span.From || d.Span.To > len(b) || d.Text == "" || d.Code == 0 {
				t.Fatalf("%q: %v", b, d)
			}
			if i > 0 && !isAhead(r.Diags[i-1], d) {
				t.Fatalf("%q: %v", b, r.Diags)
			}
			if d.Code < api.CodeAssert && len(r.Sigs) > 0 {
				t.Fatalf("%q: %v", b, r)
			}
		}
		for at := -1; at <= len(b)+1; at += 7 {
			r.Hover(at)
		}
	}
}

// TestTextStays: the bytes that are handed in, and the room behind them.
func TestTextStays(t *testing.T) {
	for seed := range int64(200) {
		m := newMaker(70000 + seed)
		s := m.text()
		if seed%2 == 0 {
			s = spoilt(m.Rand, s)
		}
		b := append([]byte(s), "room"...)
		want := slices.Clone(b)
		r := check.Check(b[:len(s)])
		check.Spans(b[:len(s)])
		if !slices.Equal(b, want) {
			t.Fatalf("%s\n  is changed", s)
		}
		// Nothing of them is kept; each answer is new memory.
		other := check.Check([]byte(s))
		for i := range b {
			b[i] = '#'
		}
		if !reflect.DeepEqual(r, other) {
			t.Fatalf("%s\n  is kept", s)
		}
		clear(r.Diags)
		clear(r.Sigs)
		if again := check.Check([]byte(s)); !reflect.DeepEqual(again, other) {
			t.Fatalf("%s\n  answers share memory", s)
		}
	}
	b := []byte("a; b;")
	first, second := check.Spans(b), check.Spans(b)
	clear(first)
	if !slices.Equal(second, []span{{From: 0, To: 2}, {From: 2, To: 5}}) {
		t.Error(second)
	}
}

// TestHeadChangesNothing: neither the table, nor the item, nor the solution.
func TestHeadChangesNothing(t *testing.T) {
	const s = "qual l(a, b) = a < b or a = 2 * b; qual p(a) = a > 0 and a != 7; fn f(x: int, y: int{v > x}) -> int = x;"
	table, _ := tableOf(t, s)
	it, _ := table.Item(2)
	made := func() horn.Sol {
		l := []horn.Inst{{Qual: 1}, {Qual: 0, At: []int{1, 77}[:1]}, {Qual: 0, At: []int{0, 77}[:1]}, {Qual: 77}}
		return horn.Sol{{Fn: "f", Pos: gen.Result}: l[:3], {Fn: "f", Pos: 0}: {{Qual: 1}}}
	}
	sol, want := made(), made()
	text := check.Head(table, it, sol)
	if text != "f(x: int{v > 0 and v != 7}, y: int{v > x}) -> int{(v < x or v = 2 * x) and (v < y or v = 2 * y) and (v > 0 and v != 7)}" {
		t.Error(text)
	}
	k := gen.Kap{Fn: "f", Pos: gen.Result}
	if !reflect.DeepEqual(sol, want) || !reflect.DeepEqual(sol[k][:4], want[k][:4]) || sol[k][1].At[:2][1] != 77 {
		t.Error("a solution is changed:", sol)
	}
	for i, want := range []string{"qual l(a, b) = a < b or a = 2 * b;", "qual p(a) = a > 0 and a != 7;", "fn f(x: int, y: int{v > x}) -> int = x;"} {
		if it, _ := table.Item(i); syntax.Print(it) != want {
			t.Error("an item is changed:", syntax.Print(it))
		}
	}
	if syntax.Print(it) != "fn f(x: int, y: int{v > x}) -> int = x;" {
		t.Error("an item is changed:", syntax.Print(it))
	}
}

// TestAtOnce: nothing is shared by calls.
func TestAtOnce(t *testing.T) {
	const count = 40
	var s, want [count]string
	told := func(s string) string {
		r := check.Check([]byte(s))
		var l []string
		for _, d := range r.Diags {
			l = append(l, d.Text)
		}
		for _, g := range r.Sigs {
			l = append(l, g.Text)
		}
		return strings.Join(l, "\n")
	}
	for i := range s {
		s[i] = newMaker(80000 + int64(i)).text()
		want[i] = told(s[i])
	}
	var wait sync.WaitGroup
	for i := range s {
		wait.Go(func() {
			if got := told(s[i]); got != want[i] {
				t.Errorf("%s\n  got %s\n  not %s", s[i], got, want[i])
			}
		})
	}
	wait.Wait()
}

// TestOddArguments: whatever a call is handed, it answers something.
func TestOddArguments(t *testing.T) {
	odd := []syntax.Item{
		{}, {Kind: syntax.Fn}, {Kind: 77}, {Kind: syntax.Fn, Name: "f", Params: []syntax.Param{{Type: syntax.Type{Base: 99, Len: -1}}, {Type: syntax.Type{Base: api.Int, Pred: []syntax.Expr{{}, {}}}}}},
		{Kind: syntax.Qual, Name: "q", Params: []syntax.Param{{Name: "a"}, {Name: "a"}}, Body: syntax.Expr{Kind: syntax.And}},
	}
	table := base.New(odd)
	sol := horn.Sol{{Fn: "f", Pos: gen.Result}: {{Qual: 0, At: []int{0}}, {Qual: 0}}, {Fn: "f", Pos: 1}: {{}}, {}: {{}}}
	for _, it := range odd {
		check.Head(table, it, sol)
		check.Head(nil, it, nil)
	}
	least, greatest := -1<<63, 1<<63-1
	check.Shift(span{From: least, To: greatest}, greatest)
	check.SyntaxDiag(greatest, span{From: 1, To: least}, api.Errno(least))
	check.TypeDiag(-1, base.Fault{})
	check.ConsDiag(-1, gen.Cons{Apps: nil, Head: gen.Hyp{Use: gen.Use{Args: []linear.Term{{}}}}})
	check.Report{}.Hover(least)
	if got := check.SyntaxDiag(0, span{}, api.OK).Text; got != "error 0" {
		t.Error(got)
	}
}

// TestGreatTexts: as much as there may be of this and that.
func TestGreatTexts(t *testing.T) {
	row := strings.Repeat(" and x > 0", 20000)
	reports(t, "pub fn f(x: int{v > 0}) -> int = if true"+row+" then 1 / x else 0;", "f(x: int{v > 0}) -> int")
	reports(t, strings.Repeat(" ", 1<<20)+"fn f() -> int = 1;"+strings.Repeat("// ;\n", 1<<16), "f() -> int")
	deep := strings.Repeat("if x > 0 then ", 28) + "1 / x" + strings.Repeat(" else 2", 28)
	reports(t, "pub fn f(x: int) -> int = "+deep+";", "f(x: int) -> int")
	great := strings.Repeat("9", 40)
	reports(t, "pub fn f(x: int{v > "+great+"}) -> int{v > "+great+" * "+great+"} = x * "+great+" + x;", "f(x: int{v > "+great+"}) -> int{v > "+great+" * "+great+"}")
	reports(t, "qual p(a) = a >= "+great+"; fn f(x: int) -> int = x; pub fn g() -> int = f("+great+");", "f(x: int{v >= "+great+"}) -> int{v >= "+great+"}", "g() -> int")
	reports(t, "pub fn f(a: arr 1000000, i: int{0 <= v and v < 1000000}) -> int = get(a, i) + get(fill(0, 1), 0);", "11 `get(fill(0, 1), 0)`", "f(a: arr 1000000, i: int{0 <= v and v < 1000000}) -> int")
}
