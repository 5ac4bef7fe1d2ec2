package check_test

import (
	"fmt"
	"math/rand"
	"slices"
	"strings"
	"testing"

	"whetstone/check"
	"whetstone/lex"
	"whetstone/syntax"
)

// laid is tokens as a text, with something or nothing between them, and where each
// begins and ends.
func laid(tokens []string, between func(a, b string) string) (string, []span) {
	var s strings.Builder
	var at []span
	last := ""
	for _, token := range tokens {
		s.WriteString(between(last, token))
		from := s.Len()
		s.WriteString(token)
		at = append(at, span{From: from, To: s.Len()})
		last = token
	}
	s.WriteString(between(last, ""))
	return s.String(), at
}

// part: would two tokens be others, if nothing stood between them?
func part(a, b string) bool {
	tokens, _, _ := lex.Tokens([]byte(a + b))
	return a != "" && b != "" && (len(tokens) != 3 || tokens[0].Text != a)
}

// oneBlank, noBlank and anything are what may stand between two tokens.
func oneBlank(a, b string) string { return " " }

func noBlank(a, b string) string {
	if part(a, b) {
		return "\t"
	}
	return ""
}

func anything(m *rand.Rand) func(a, b string) string {
	return func(a, b string) string {
		l := []string{" ", "\n", "\t\r\n", "// x; fn f(\n", "//\n", "  // #;\u20ac\n  ", "//////\n\n"}
		s := ""
		for m.Intn(2) == 0 {
			s += l[m.Intn(len(l))]
		}
		// A / ahead of a remark would begin it.
		if s == "" && part(a, b) || strings.HasPrefix(s, "/") && a == "/" {
			return " " + s
		}
		return s
	}
}

// byTokens is a report whose Spans are told by the tokens that they begin and end
// with; the text's end is one too.
func byTokens(t *testing.T, s string, at []span) []string {
	t.Helper()
	begins, ends := map[int]int{}, map[int]int{}
	for i, x := range at {
		begins[x.From], ends[x.To] = i, i
	}
	if _, there := begins[len(s)]; !there {
		begins[len(s)] = len(at)
	}
	if _, there := ends[len(s)]; !there {
		ends[len(s)] = len(at)
	}
	place := func(x span) string {
		from, begin := begins[x.From]
		to, end := ends[x.To]
		if x.From == len(s) {
			return "end"
		}
		if !begin || !end {
			t.Fatalf("%s\n  %v isn't one of tokens", s, x)
		}
		return fmt.Sprint(from, "-", to)
	}
	r := check.Check([]byte(s))
	var l []string
	for _, d := range r.Diags {
		l = append(l, fmt.Sprint(place(d.Span), " ", d.Code, " ", d.Text))
	}
	for _, g := range r.Sigs {
		l = append(l, place(g.At)+" "+g.Text)
	}
	return l
}

// TestBlanksSayNothing: nor do remarks.
func TestBlanksSayNothing(t *testing.T) {
	wrong, right := 0, 0
	for seed := range int64(1200) {
		m := newMaker(40000 + seed)
		s := m.text()
		if seed%2 == 0 {
			s = spoilt(m.Rand, s)
		}
		tokens, _, e := lex.Tokens([]byte(s))
		if e != 0 {
			continue
		}
		var l []string
		for _, token := range tokens[:len(tokens)-1] {
			l = append(l, token.Text)
		}
		text, at := laid(l, oneBlank)
		want := byTokens(t, text, at)
		if len(want) > 0 && strings.Contains(want[len(want)-1], "->") {
			right++
		} else {
			wrong++
		}
		for i, between := range []func(a, b string) string{noBlank, anything(m.Rand), anything(m.Rand)} {
			text, at := laid(l, between)
			if got := byTokens(t, text, at); !slices.Equal(got, want) {
				t.Fatalf("%d: %s\n  got %q\n  not %q", i, text, got, want)
			}
		}
	}
	if wrong < 100 || right < 100 {
		t.Error("drawn one-sidedly:", wrong, right)
	}
}

// byNames is a report by functions: what is wrong with each, its Spans told from its
// item's first token on, and its head.
func byNames(t *testing.T, s string) map[string][]string {
	t.Helper()
	r := check.Check([]byte(s))
	out := map[string][]string{}
	sigs := r.Sigs
	for at := range lex.Items([]byte(s)) {
		it, _, e := syntax.Parse([]byte(s[at.From:at.To]))
		if e != 0 {
			t.Fatal(s)
		}
		if it.Kind != syntax.Fn {
			continue
		}
		var l []string
		for _, d := range r.Diags {
			if at.From <= d.Span.From && d.Span.To <= at.To {
				l = append(l, fmt.Sprint(d.Span.From-at.From-it.At.From, " ", d.Span.To-d.Span.From, " ", d.Code, " ", d.Text))
			}
		}
		if len(sigs) == 0 {
			t.Fatalf("%s\n  %v", s, r)
		}
		if sigs[0].At != moved(it.At, at.From) {
			t.Fatalf("%s\n  %s: %v", s, it.Name, sigs[0])
		}
		out[it.Name] = append(l, sigs[0].Text)
		sigs = sigs[1:]
	}
	return out
}

// apart is the qualifiers and the functions of a text that is made.
func apart(s string) (quals, functions []string) {
	for _, line := range strings.Split(s, "\n") {
		if strings.HasPrefix(line, "qual") {
			quals = append(quals, line)
		} else {
			functions = append(functions, line)
		}
	}
	return quals, functions
}

func holdsFor(t *testing.T, text string, got, want map[string][]string) {
	t.Helper()
	for name, l := range want {
		if !slices.Equal(got[name], l) {
			t.Fatalf("%s\n  %s: got %q\n  not %q", text, name, got[name], l)
		}
	}
}

// TestOthersSayNothing: of functions that don't lean on each other each is as it is
// without the others, in whatever order the functions stand.
func TestOthersSayNothing(t *testing.T) {
	diags := 0
	for seed := range int64(600) {
		m := newMaker(50000 + seed)
		quals, some := apart(m.text())
		_, others := apart(strings.NewReplacer("f0", "g0", "f1", "g1", "f2", "g2", "f3", "g3").Replace(m.text()))
		alone := byNames(t, strings.Join(append(quals[:len(quals):len(quals)], some...), "\n"))
		theirs := byNames(t, strings.Join(append(quals[:len(quals):len(quals)], others...), "\n"))
		l := append(some, others...)
		m.Shuffle(len(l), func(i, j int) { l[i], l[j] = l[j], l[i] })
		// Qualifiers' places among functions say nothing either; their order does.
		for i, q := range quals {
			at := m.Intn(len(l) + 1)
			for _, line := range quals[:i] {
				at = max(at, slices.Index(l, line)+1)
			}
			l = slices.Insert(l, min(at, len(l)), q)
		}
		both := strings.Join(l, "\n")
		got := byNames(t, both)
		holdsFor(t, both, got, alone)
		holdsFor(t, both, got, theirs)
		for _, l := range got {
			diags += len(l) - 1
		}
	}
	if diags < 200 {
		t.Error("little is wrong:", diags)
	}
}

// TestBodiesSayNothing: a function without open places that calls those alone whose
// heads are written hangs on its item and on these heads: on no other's body, on no
// qualifier.
func TestBodiesSayNothing(t *testing.T) {
	diags := 0
	for seed := range int64(600) {
		m := newMaker(60000 + seed)
		quals, l := apart(m.text())
		for i, f := range l {
			l[i] = "pub " + strings.TrimPrefix(f, "pub ")
		}
		want := byNames(t, strings.Join(l, "\n"))
		for i, f := range l {
			name, _, _ := strings.Cut(strings.TrimPrefix(f, "pub fn "), "(")
			other := slices.Clone(l)
			for j := range other {
				head, _, _ := strings.Cut(other[j], " = ")
				result := head[strings.LastIndex(head, "->"):]
				switch {
				case j == i:
				case strings.Contains(result, "arr"):
					other[j] = head + " = fill(4, 1 / 0);"
				case strings.Contains(result, "bool"):
					other[j] = head + " = 1 / 0 = 2;"
				default:
					other[j] = head + " = 3;"
				}
			}
			other = append(other, quals...)
			m.Shuffle(len(other), func(i, j int) { other[i], other[j] = other[j], other[i] })
			text := strings.Join(other, "\n")
			holdsFor(t, text, byNames(t, text), map[string][]string{name: want[name]})
			diags += len(want[name]) - 1
		}
	}
	if diags < 200 {
		t.Error("little is wrong:", diags)
	}
}
