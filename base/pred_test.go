package base_test

import (
	"testing"

	"whetstone/api"
)

// predChecks: what is marked in an expression is told, in each place where a
// predicate knows numbers, truths and arrays.
func predChecks(t *testing.T, s string, e api.Errno) {
	t.Helper()
	for _, text := range inPreds(s) {
		checks(t, text, e)
	}
}

// TestForbiddenInPredicates: ahead of everything that is wrong within.
func TestForbiddenInPredicates(t *testing.T) {
	for _, s := range []string{
		"[num()]", "[yes()]", "[zz()]", "[num(1)]", "[mix(n, t, a)]", "[mix(zz, true + 1, n)]", "([n / m])", "([4 / 2])", "([zz / true])", "([n % m])", "([4 % 2])", "([a % zz])",
		"([let x = 1 in x])", "([let n = zz in n])", "([if t then n else m])", "([if n then zz else t])", "([assert t in n])", "([assert n in zz])",
		"[get(a, 0)]", "[get(zz, t)]", "[set(a, 0, 0)]", "[set(n, zz, t)]", "[len(a)]", "[len(zz)]", "[fill(3, 0)]", "[fill(3, zz)]",
		"([n * m])", "([n * n])", "([v * n])", "([zz * zz])", "([true * t])", "([t * n])", "([n * (m + 1)])", "([(n - n) * m])", "([-n * m])", "([n * true])", "([(4 / 2) * n])", "([n * (4 / 2)])", "([2 * n * m])", "([n * 2 * m])", "([n * m * 2 * zz])", "([num() * n])", "([n * (1 + m - m)])", "([a * a])",
	} {
		predChecks(t, s+" > zz", api.ErrPred)
		predChecks(t, s, api.ErrPred)
		for _, f := range predForms() {
			eachPart(f, func(byte) []string { return []string{s} }, func(s string) { predChecks(t, s, api.ErrPred) })
		}
	}
	// The outer one comes first.
	for _, s := range []string{"[n / 2 / 3] > 0", "[n * m * (n / 2)] > 0", "[-(1 / 2) * n] > 0", "1 + [(n / 2) % 3] > 0", "[len(fill(3, n / 2))] = 0", "([n * m]) * 2 > 0", "2 * ([n * m]) > 0", "[n * m] - n * m > 0"} {
		predChecks(t, s, api.ErrPred)
	}
}

// TestAllowedInPredicates: and none of it is forbidden outside.
func TestAllowedInPredicates(t *testing.T) {
	for _, s := range []string{
		"true", "false", "t", "not t", "not (n > m)", "n = m", "n != m", "n < m", "n <= m", "n > m", "n >= m", "t and u", "t or not u and n = 0", "n + m - 1 > -n", "-(n + m) < 0",
		"2 * n > 0", "n * 2 > 0", "2 * 3 > n", "-2 * n > 0", "n * -(1 + 2 * 3 - 4) > 0", "(1 - 1) * n * 2 = 0", "2 * n * 3 * 4 > 0", "2 * 3 * n > 0", "2 * (n + m) > 0", "(n - m) * 2 > 0", "3 * (2 * n) > 0", "0 * (n + 2 * m) = 0", "n + m * 2 + 3 * n > 0",
	} {
		predChecks(t, s, api.OK)
		right(t, inBody("bool", s))
	}
	for _, s := range []string{"n * m > 0", "n / m > 0", "n % m = 0", "t = u", "t != u", "num() > 0", "len(a) = get(a, 0)"} {
		right(t, inBody("bool", s))
	}
}

func TestTruthsAreNotComparedInPredicates(t *testing.T) {
	for _, s := range []string{"[t = u]", "[t != u]", "[true = false]", "n > 0 and ([t = u])", "[(n > 0) = t]", "[(n > 0) != (t = u)]", "([t = u]) = (u = t)", "not ([(not t) != u]) or t"} {
		predChecks(t, s, api.ErrPred)
		right(t, inBody("bool", plain(s)))
	}
	// The first part's kind is enough.
	for _, s := range []string{"[t = zz]", "[t = n]", "[t != a]", "not ([(not t) = zz])", "[t = (n / m)]"} {
		predChecks(t, s, api.ErrPred)
	}
	predChecks(t, "n = [t]", api.ErrType)
	predChecks(t, "n != [true]", api.ErrType)
	predChecks(t, "n = ([n = m])", api.ErrType)
	predChecks(t, "[zz] = t", api.ErrName)
	predChecks(t, "n = [zz]", api.ErrName)
}

func TestArraysAreNotInPredicates(t *testing.T) {
	for _, s := range []string{"[a]", "[a] = a", "n = [a]", "[a] > zz", "not [a]", "-[a] > 0", "t and [a]", "[a] * 2 > 0", "2 * [a] > 0", "n + 2 * [a] > t"} {
		predChecks(t, s, api.ErrPred)
	}
	checks(t, "fn f(a: arr 3, x: int{v > [a]}, y: int{v > zz}) -> int = zz;", api.ErrPred)
}

// TestFaultsWithinPredicates: those that an expression outside has as well.
func TestFaultsWithinPredicates(t *testing.T) {
	wrong := map[api.Errno]map[byte][]string{
		api.ErrType: {'i': {"[t]", "[true]", "([n < m])", "([t and u])", "-[t]", "(n + [u])"}, 'b': {"[n]", "[0]", "([n + m])", "([2 * n])", "(not [n])", "(t or [m])"}},
		api.ErrName: {'i': {"[zz]", "[f]", "[num]", "[x]", "-[zz]", "(n + [zz])", "(2 * [zz])"}, 'b': {"[zz]", "(not [zz])", "([zz] < n)", "(t and [x])"}},
	}
	for e, list := range wrong {
		for _, f := range predForms() {
			eachPart(f, func(of byte) []string { return list[of] }, func(s string) { predChecks(t, s, e) })
		}
	}
	for _, s := range []string{"[n]", "[0]", "[n + m]", "[-n]", "[2 * n]", "[12]"} {
		predChecks(t, s, api.ErrType)
		predChecks(t, "not ("+s+")", api.ErrType)
	}
}

// TestV: it is of its type's kind, and in a type's predicate alone.
func TestV(t *testing.T) {
	right(t, "fn f(x: int{v > 0}, y: bool{v}, z: bool{not v or x > 0}) -> int{v = x} = x;")
	right(t, "fn f() -> bool{v or not v} = true;")
	checks(t, "fn f(x: int{[v]}) -> int = x;", api.ErrType)
	checks(t, "fn f(x: int{not [v]}) -> int = x;", api.ErrType)
	checks(t, "fn f(x: bool{[v] > 0}) -> int = 0;", api.ErrType)
	checks(t, "fn f() -> int{[v]} = 0;", api.ErrType)
	checks(t, "fn f() -> bool{[v] + 1 > 0} = true;", api.ErrType)
	checks(t, "fn f(x: bool, y: int{v > 0 and [v]}) -> int = 0;", api.ErrType)
	checks(t, "fn f(x: bool{[v = true]}) -> int = 0;", api.ErrPred)
	for _, s := range []string{
		"fn f() -> int = [v];", "fn f(x: int{v > 0}) -> int = [v];", "fn f(x: int{v > 0}) -> int{v > 0} = x + [v];", "fn f() -> int = let x = [v] in x;", "fn f() -> int = let x = 1 in [v];",
		"qual q(a) = [v] > a;", "qual q(a) = [v];", "qual q(a) = a > 0 and [v];",
	} {
		checks(t, s, api.ErrName)
	}
}

// TestQualifiers: predicates over numbers.
func TestQualifiers(t *testing.T) {
	for _, s := range []string{"qual q(a) = true;", "qual q(a) = a > 0;", "qual q(a, b) = a = b + 1 or not (a != 2 * b);", "qual q(a, b, c, d, e, g, h, i, j, k, l, m) = a < m;", "qual q(q) = q > 0;", "qual f(a) = a > 0; fn f(a: int) -> int = a; qual a(f) = f >= 0;"} {
		right(t, s)
	}
	for e, list := range map[api.Errno][]string{
		api.ErrType:  {"qual q(a) = [a];", "qual q(a) = [1];", "qual q(a) = [a + 1];", "qual q(a) = not [a];", "qual q(a) = [true] + a;", "qual q(a) = [a] and zz;"},
		api.ErrName:  {"qual q(a) = [b];", "qual q(a) = a > [q];", "qual q(a, b) = a > b and [c] = 0;"},
		api.ErrTwice: {"qual q(a, [a]) = a > 0;", "qual q(a, b, [a]) = zz;", "qual q(a, b, [b], a) = a;", "qual q(a) = a > 0; qual [q](a, a) = zz;"},
		api.ErrPred:  {"qual q(a, b) = [a * b] > 0;", "qual q(a) = [a / 2] = 0;", "qual q(a) = [a % 2] = 0;", "qual q(a) = [let a = 1 in a > 0];", "qual q(a) = [if a > 0 then true else false];", "qual q(a) = [assert a > 0 in true];", "fn g() -> bool = true; qual q(a) = [g()];", "qual q(a) = [(a > 0) = true];", "qual q(a) = [len(fill(1, 1))] = a;", "qual q(a) = [q(a)];"},
	} {
		for _, s := range list {
			checks(t, s, e)
		}
	}
}
