package horn_test

import (
	"fmt"
	"math/rand"
	"slices"
	"strings"
	"testing"

	"whetstone/api"
	"whetstone/base"
	"whetstone/gen"
	"whetstone/horn"
	"whetstone/syntax"
)

// TestInsts: by hand.
func TestInsts(t *testing.T) {
	table := rightTable(t, `qual p(a) = a > 0; fn f(x: int, b: bool, y: int{v > 0}, c: arr 3, z: int) -> int = x;
		qual q(a, b) = a > b; pub fn g(x: int) -> int = x; qual r(a, b, c) = a = b + c; fn h(b: bool) -> bool = b; fn k() -> int = 1;`)
	for _, c := range []struct {
		k    kap
		want string
	}{
		{kap{Fn: "f", Pos: 0}, "p()"},
		{kap{Fn: "f", Pos: 2}, "p() q(0) r(0 0)"},
		{kap{Fn: "f", Pos: 4}, "p() q(0) q(1) r(0 0) r(0 1) r(1 0) r(1 1)"},
		{kap{Fn: "f", Pos: gen.Result}, "p() q(0) q(1) q(2) r(0 0) r(0 1) r(0 2) r(1 0) r(1 1) r(1 2) r(2 0) r(2 1) r(2 2)"},
		{kap{Fn: "g", Pos: gen.Result}, "p() q(0) r(0 0)"},
		{kap{Fn: "k", Pos: gen.Result}, "p()"},
		// A truth, an array; behind no number.
		{kap{Fn: "f", Pos: 1}, "p() q(0) r(0 0)"},
		{kap{Fn: "f", Pos: 3}, "p() q(0) q(1) r(0 0) r(0 1) r(1 0) r(1 1)"},
		{kap{Fn: "h", Pos: 0}, "p()"},
		{kap{Fn: "h", Pos: gen.Result}, "p()"},
		// No such place, no such function; a qualifier's name is none.
		{kap{Fn: "f", Pos: 5}, ""},
		{kap{Fn: "f", Pos: -2}, ""},
		{kap{Fn: "k", Pos: 0}, ""},
		{kap{Fn: "h", Pos: 1}, ""},
		{kap{Fn: "p", Pos: 0}, ""},
		{kap{Fn: "nobody", Pos: 0}, ""},
		{kap{}, ""},
	} {
		if got := instsText(table, horn.Insts(table, c.k)); got != c.want {
			t.Errorf("%v: got %s, not %s", c.k, got, c.want)
		}
	}
	if l := horn.Insts(nil, kap{Fn: "f"}); len(l) != 0 {
		t.Error("a nil table:", l)
	}
	if l := horn.Insts(base.New(nil), kap{Fn: "f"}); len(l) != 0 {
		t.Error("an empty table:", l)
	}
}

// TestInstsOfAnyType: what is tried for a place hangs on the numbers ahead of it, not
// on its own type, its predicate, or whether its function is pub.
func TestInstsOfAnyType(t *testing.T) {
	const quals = "qual p(a) = a >= 0; qual q(a, b) = a < b; "
	of := func(pos int) kap { return kap{Fn: "f", Pos: pos} }
	for text, want := range map[string]map[kap]string{
		"qual p(a) = a >= 0; fn f(b: bool) -> int = 1;": {of(0): "p()", of(gen.Result): "p()", of(1): ""},
		quals + "fn f(x: int, y: bool, z: arr 2) -> bool = y;": {
			of(0): "p()", of(1): "p() q(0)", of(2): "p() q(0)", of(gen.Result): "p() q(0)", of(3): "", of(-2): "", {Fn: "g"}: "",
		},
	} {
		table := rightTable(t, text)
		for k, w := range want {
			if got := instsText(table, horn.Insts(table, k)); got != w {
				t.Errorf("%s: %v: got %s, not %s", text, k, got, w)
			}
		}
	}
	for typ, value := range map[string]string{"int": "1", "int{v > 0}": "1", "bool": "true", "bool{v}": "true", "arr 0": "fill(0, 0)", "arr 2": "fill(2, 0)"} {
		for _, pub := range []string{"", "pub "} {
			text := quals + pub + "fn f(a: " + typ + ") -> int = 1; " + pub + "fn g(b: bool, x: int, y: int{v > 0}, z: arr 2, a: " + typ + ") -> " + typ + " = " + value + ";"
			table := rightTable(t, text)
			for k, w := range map[kap]string{of(0): "p()", {Fn: "g", Pos: 4}: "p() q(0) q(1)"} {
				if got := instsText(table, horn.Insts(table, k)); got != w {
					t.Errorf("%s: %v: got %s, not %s", text, k, got, w)
				}
			}
			got := instsText(table, horn.Insts(table, kap{Fn: "g", Pos: gen.Result}))
			want := "p() q(0) q(1)"
			if strings.HasPrefix(typ, "int") {
				want += " q(2)"
			}
			if got != want {
				t.Errorf("%s: the result: got %s, not %s", text, got, want)
			}
		}
	}
}

// tried is what Insts answers, for a place with so many numbers ahead: each row's
// number is counted up, and told in that many digits.
func tried(table *base.Table, numbers int) []inst {
	var l []inst
	for n := range table.Quals() {
		q, _ := table.Qual(n)
		columns := len(q.Params) - 1
		for i := 0; len(l) < api.MaxInst; i++ {
			row := make([]int, columns)
			rest := i
			for c := columns - 1; c >= 0 && numbers > 0; c-- {
				row[c] = rest % numbers
				rest /= numbers
			}
			if rest > 0 || numbers == 0 && columns > 0 || columns == 0 && i > 0 {
				break
			}
			l = append(l, inst{Qual: n, At: row})
		}
	}
	return l
}

// qualText is a qualifier with so many parameters.
func qualText(n, params int) string {
	var l []string
	for i := range params {
		l = append(l, fmt.Sprint("a", i))
	}
	return fmt.Sprintf("qual q%d(%s) = a0 > 0;", n, strings.Join(l, ", "))
}

// TestInstsDrawn: any qualifiers, any number of parameters.
func TestInstsDrawn(t *testing.T) {
	m := rand.New(rand.NewSource(1))
	cut := 0
	for range 600 {
		var s strings.Builder
		for n := range m.Intn(8) {
			params := 1 + m.Intn(4)
			if m.Intn(4) == 0 {
				params = 1 + m.Intn(api.MaxQuals)
			}
			s.WriteString(qualText(n, params))
		}
		var params []string
		numbers := []int{0} // ahead of each place
		for i := range m.Intn(api.MaxParams + 1) {
			is := []string{"bool", "int", "int{v > 0}", "int", "arr 3"}[m.Intn(5)]
			params = append(params, fmt.Sprint("p", i, ": ", is))
			numbers = append(numbers, numbers[i])
			if strings.HasPrefix(is, "int") {
				numbers[i+1]++
			}
		}
		result := []string{"int = 1", "bool = true", "arr 1 = fill(1, 1)"}[m.Intn(3)]
		s.WriteString("fn f(" + strings.Join(params, ", ") + ") -> " + result + ";")
		table := rightTable(t, s.String())
		for i, n := range numbers {
			k := kap{Fn: "f", Pos: i}
			if i == len(params) {
				k.Pos = gen.Result
			}
			got, want := horn.Insts(table, k), tried(table, n)
			if len(want) == api.MaxInst {
				cut++
			}
			if a, b := instsText(table, got), instsText(table, want); a != b {
				t.Fatalf("%s: %v: got %s, not %s", s.String(), k, a, b)
			}
		}
	}
	if cut < 100 {
		t.Error("few lists were cut:", cut)
	}
}

// TestMost: the limit counts what is allowed.
func TestMost(t *testing.T) {
	const six = "fn f(a: int, b: int, c: int, d: int, e: int, g: int) -> int = 1;"
	result := kap{Fn: "f", Pos: gen.Result}
	for _, c := range []struct {
		quals string
		want  int
		last  string
	}{
		// 36 + 6 * 4 + 4 are just as many.
		{qualText(0, 3) + qualText(1, 2) + qualText(2, 2) + qualText(3, 2) + qualText(4, 2) + qualText(5, 1) + qualText(6, 1) + qualText(7, 1) + qualText(8, 1), 64, "q8()"},
		{qualText(0, 3) + qualText(1, 2) + qualText(2, 2) + qualText(3, 2) + qualText(4, 2) + qualText(5, 1) + qualText(6, 1) + qualText(7, 1), 63, "q7()"},
		{qualText(0, 3) + qualText(1, 3), 64, "q1(4 3)"},
		{qualText(0, 12), 64, "q0(0 0 0 0 0 0 0 0 1 4 3)"},
		{qualText(0, 12) + qualText(1, 1), 64, "q0(0 0 0 0 0 0 0 0 1 4 3)"},
		{qualText(0, 4), 64, "q0(1 4 3)"},
	} {
		table := rightTable(t, c.quals+six)
		l := horn.Insts(table, result)
		if len(l) != c.want || instText(table, l[len(l)-1]) != c.last {
			t.Errorf("%s: %d, the last one is %s", c.quals, len(l), instText(table, l[len(l)-1]))
		}
	}
	if l := horn.Insts(rightTable(t, qualText(0, 12)+"fn f(a: int) -> int = 1;"), result); len(l) != 1 || len(l[0].At) != 11 {
		t.Error("one number ahead:", l)
	}
}

// TestInstsAreNewMemory: of one answer, and of two.
func TestInstsAreNewMemory(t *testing.T) {
	table := rightTable(t, qualText(0, 1)+qualText(1, 4)+"fn f(a: int, b: int) -> int = 1;")
	k := kap{Fn: "f", Pos: gen.Result}
	want := instsText(table, horn.Insts(table, k))
	first, second := horn.Insts(table, k), horn.Insts(table, k)
	for i := range first {
		_ = append(first[i].At, 77)
		for j := range first[i].At {
			first[i].At[j] = 99
		}
		for j := range first {
			if j > i && slices.Contains(first[j].At, 99) {
				t.Fatal("two rows share memory")
			}
		}
	}
	clear(first)
	if got := instsText(table, second); got != want {
		t.Error("two answers share memory", got)
	}
	if got := instsText(table, horn.Insts(table, k)); got != want {
		t.Error("an answer is kept", got)
	}
}

// TestOddQualifiers: those that Parse doesn't make.
func TestOddQualifiers(t *testing.T) {
	f := rightTable(t, "fn f(a: int) -> int = 1;")
	it, _ := f.Item(0)
	table := base.New([]syntax.Item{{Kind: syntax.Qual, Name: "none"}, it, {Kind: syntax.Qual, Name: "one", Params: []syntax.Param{{Name: "a"}}}})
	l := horn.Insts(table, kap{Fn: "f", Pos: gen.Result})
	if got := instsText(table, l); got != "one()" {
		t.Error(got)
	}
	for _, x := range []inst{{Qual: 0}, {Qual: 0, At: []int{0}}, {Qual: 1}} {
		for n := range 3 {
			horn.Formula(table, x, make([]term, n))
		}
	}
}
