package base_test

import (
	"strings"
	"testing"

	"whetstone/api"
)

// ofKinds are right expressions, by the types that they have, in a function of
// head.
func ofKinds() map[string][]string {
	return map[string][]string{
		"int":         {"0", "12345678901234567890", "n", "-n", "n + m", "n - m", "n * m", "n / m", "n % m", "n / 0", "num()", "get(a, n)", "len(a)", "len(three())", "len(fill(7, n))", "get(set(c, 9, n), 1)", "let x = true in n", "let x = n in x", "if t then n else m", "assert t in n", "let f = 1 in f", "let num = num() in num + num()", "(let x = 1 in x) + (let x = 2 in x)", "let x = (let x = n in x) in x", "let x = a in get(x, 0)", "if t and u or not t then 1 else 2"},
		"bool":        {"true", "false", "t", "not t", "n = m", "n != m", "t = u", "t != u", "n < m", "n <= m", "n > m", "n >= m", "t and u", "t or u", "yes()", "let x = n in t", "let x = t in x", "if t then u else t", "assert t in u", "(n < m) = (t != u)", "if t then true else yes()"},
		"arr 3":       {"a", "three()", "set(a, n, m)", "set(three(), 7, -1)", "fill(3, n)", "if t then a else three()", "let x = n in a", "let x = a in x", "assert t in a", "set(set(a, 0, 1), 1, get(a, 0))"},
		"arr 2":       {"c", "mix(n, t, a)", "set(c, 0, 0)", "fill(2, get(c, 0))", "mix(1, true, set(three(), 0, 0))", "if u then c else mix(n, t, a)"},
		"arr 0":       {"fill(0, n)", "set(fill(0, 0), 0, 0)"},
		"arr 1":       {"fill(1, 1)"},
		"arr 65537":   {"fill(65537, 1)", "set(fill(65537, 1), 0, 0)"},
		"arr 1000000": {"fill(1000000, 0)"},
	}
}

// TestKindsOfExpressions: a Body is right as one type, and wrong, as a whole,
// as every other.
func TestKindsOfExpressions(t *testing.T) {
	all := ofKinds()
	for own, list := range all {
		for _, e := range list {
			right(t, inBody(own, e))
			for other := range all {
				if other != own {
					checks(t, inBody(other, "["+e+"]"), api.ErrType)
				}
			}
		}
	}
}

// form is an expression with parts, each a $ of its text, and what they must
// be: i a number, b a truth, a any array, 3 one of three places.
type form struct{ text, parts string }

func forms() []form {
	l := []form{
		{"-$", "i"}, {"not $", "b"}, {"$ and $", "bb"}, {"$ or $", "bb"}, {"n = $", "i"}, {"t = $", "b"}, {"n != $", "i"}, {"t != $", "b"},
		{"mix($, $, $)", "ib3"}, {"let y = -$ in not $", "ib"},
		{"if $ then n else m", "b"}, {"if $ then -$ else $", "bii"}, {"if $ then t else $", "bb"}, {"if $ then a else $", "b3"}, {"assert $ in $ + $", "bii"},
		{"get($, $)", "ai"}, {"set($, $, $)", "aii"}, {"len($)", "a"}, {"fill(4, $)", "i"},
	}
	for _, sign := range strings.Fields("+ - * / % < <= > >=") {
		l = append(l, form{"$ " + sign + " $", "ii"})
	}
	return l
}

// predForms are those of forms that may be in a predicate.
func predForms() []form {
	l := []form{
		{"-$", "i"}, {"not $", "b"}, {"$ and $", "bb"}, {"$ or $", "bb"}, {"n = $", "i"}, {"n != $", "i"},
		{"$ * 2", "i"}, {"2 * $", "i"}, {"$ * -(3 - 4 * 5)", "i"}, {"(1 + -2) * $", "i"},
	}
	for _, sign := range strings.Fields("+ - < <= > >=") {
		l = append(l, form{"$ " + sign + " $", "ii"})
	}
	return l
}

// rightParts and wrongParts are expressions that are, and aren't, what a part
// must be; of the wrong ones what is told is marked.
func rightParts(of byte) []string {
	switch of {
	case 'i':
		return []string{"n", "12", "(n + m)", "num()", "(if t then n else m)"}
	case 'b':
		return []string{"t", "false", "(n < m)", "yes()", "(not u)"}
	case 'a':
		return []string{"a", "c", "three()", "fill(0, 1)", "mix(n, t, a)"}
	}
	return []string{"a", "three()", "fill(3, n)", "set(a, n, m)", "(if t then a else three())"}
}

func wrongParts(of byte) []string {
	switch of {
	case 'i':
		return []string{"[t]", "[true]", "([n < m])", "[yes()]", "[a]", "[fill(1, 1)]", "([if t then c else c])"}
	case 'b':
		return []string{"[n]", "[0]", "([n + m])", "[num()]", "[a]", "[len(a)]", "([let x = t in n])"}
	case 'a':
		return []string{"[n]", "[t]", "([n - m])", "[num()]", "[yes()]", "[get(a, 0)]"}
	}
	return []string{"[n]", "[t]", "[c]", "[fill(2, n)]", "[fill(4, n)]", "[mix(n, t, a)]", "([if t then c else c])"}
}

// eachPart goes through a form with each of its parts replaced, those ahead of
// it being right, and those behind it anything.
func eachPart(f form, replace func(of byte) []string, use func(e string)) {
	behind := []func(of byte) string{
		func(of byte) string { return rightParts(of)[0] },
		func(of byte) string { return plain(wrongParts(of)[0]) },
		func(byte) string { return "zz" },
	}
	for i := range f.parts {
		for _, there := range replace(f.parts[i]) {
			for _, other := range behind {
				var parts []string
				for j := range f.parts {
					switch {
					case j < i:
						parts = append(parts, rightParts(f.parts[j])[0])
					case j == i:
						parts = append(parts, there)
					default:
						parts = append(parts, other(f.parts[j]))
					}
				}
				use(filled(f.text, parts...))
			}
		}
	}
}

// TestPartsOfAnotherKind: the first is told, whatever stands behind it.
func TestPartsOfAnotherKind(t *testing.T) {
	for _, f := range forms() {
		eachPart(f, wrongParts, func(e string) { checks(t, inBody("int", e), api.ErrType) })
	}
}

// TestPartsOfTheirKind: every form is right with any right parts.
func TestPartsOfTheirKind(t *testing.T) {
	for _, f := range forms() {
		for n := range 5 {
			var parts []string
			for i := range f.parts {
				parts = append(parts, rightParts(f.parts[i])[(n+i)%5])
			}
			right(t, inBody("int", "let z = "+filled(f.text, parts...)+" in 0"))
		}
	}
}

// TestFaultsWithinParts: they are told as they are, ahead of what stands
// behind them.
func TestFaultsWithinParts(t *testing.T) {
	for e, list := range map[api.Errno][]string{
		api.ErrName:  {"[zz]", "[v]", "[f]", "[num]", "[zz()]", "[n()]", "[zz(zz, true)]", "-[zz]", "(let x = [x] in 1)", "((let x = 1 in x) + [x])", "(let n = [zz] in n)"},
		api.ErrArgs:  {"[num(1)]", "[mix()]", "[mix(n, t)]", "[mix(n, t, a, a)]", "[mix(zz, zz)]", "mix([num(zz)], zz, zz)"},
		api.ErrTwice: {"([let n = 1 in n])", "([let a = n in zz])", "(let x = 1 in [let x = x in x])", "(let x = 1 in x + ([let x = true in x]))"},
		api.ErrType:  {"-[true]", "not [n]", "([a] = a)", "([a] != n)", "([three()] = zz)", "([fill(2, 0)] != fill(2, 0))", "(n = [t])", "(t != [n])", "(let n = -[t] in n)"},
	} {
		for _, f := range forms() {
			eachPart(f, func(byte) []string { return list }, func(s string) { checks(t, inBody("int", s), e) })
		}
	}
}

// TestWhatIsToldFirst: where an expression has several faults.
func TestWhatIsToldFirst(t *testing.T) {
	for e, list := range map[api.Errno][]string{
		api.ErrName: {
			"[zz] + true", "n + [zz] + true + zz", "-[zz] + true", "[zz] = a", "n = [zz]", "[zz(true + 1)]", "mix(n, [zz], n)",
			"if [zz] then zz else t", "if t then [zz] else true + 1", "assert [zz] in true + 1", "let n = [zz] in true + 1", "get([zz], t)", "set(a, [zz], t)", "n < [zz] and n", "(let x = n in -x) + [x] + true",
		},
		api.ErrType: {
			"[true] + zz", "n + [true] * zz", "(n < [t]) + zz", "([n < m]) + zz", "t and ([n + m]) or zz", "[t] + u", "[a] = zz", "(n = m) = [n]", "[n] and zz()", "mix([t], zz, n)", "mix(n, t, [c]) + zz",
			"if [n] then zz else true", "if t then n else [t]", "if t then [true] + 1 else zz", "assert [n] in zz", "let x = [true] + 1 in zz", "let n = [true] + 1 in zz", "get([n], zz)", "set([t], zz, zz)", "set(a, [t], zz)", "fill(3, [a]) + zz",
		},
		api.ErrArgs:  {"[num(true + 1)]", "[mix(zz, zz)] + zz", "n + [num(1)] + true", "-[mix()] + zz"},
		api.ErrTwice: {"[let n = true in zz]", "([let n = true in zz]) + zz", "let x = n in [let x = n in zz]"},
	} {
		for _, s := range list {
			checks(t, inBody("int", s), e)
		}
	}
}
