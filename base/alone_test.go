package base_test

import (
	"slices"
	"testing"

	"whetstone/api"
	"whetstone/base"
	"whetstone/syntax"
)

// answerOf is what Check tells of the item with that text, among others.
func answerOf(t *testing.T, texts []string, own string) (base.Fault, bool) {
	t.Helper()
	i := slices.Index(texts, own)
	f, bad := base.New(itemsOf(t, texts...)).Check(i)
	if bad && f.Item != i {
		t.Fatalf("the fault of item %d is told of %d", i, f.Item)
	}
	f.Item = 0
	return f, bad
}

// ownItem is an item that calls the maker's functions, and has a name that no
// other has.
func (m *maker) ownItem() string {
	if m.Intn(4) == 0 {
		return m.qualifier("own")
	}
	return m.function("own", m.kind(), m.kind(), m.kind())
}

// TestOthersSayNothing is P10.2: other bodies and predicates, other names of
// parameters, another order, and items more, change nothing.
func TestOthersSayNothing(t *testing.T) {
	m := newMaker(5)
	wrong := 0
	for n := range 1500 {
		m.slips = n % 8
		own := m.ownItem()
		f, bad := answerOf(t, append(split(ownHeads), own), own)
		if bad {
			wrong++
		}
		for range 3 {
			m.slips = m.Intn(12)
			texts := append(m.someItems(), own)
			texts = slices.DeleteFunc(texts, func(s string) bool { return s != own && m.inTheWay(t, own, s) })
			m.Shuffle(len(texts), func(i, j int) { texts[i], texts[j] = texts[j], texts[i] })
			if g, is := answerOf(t, texts, own); g != f || is != bad {
				t.Fatalf("Check of %q is %v, %v, but among %q %v, %v", own, f, bad, texts, g, is)
			}
		}
	}
	if wrong < 300 || wrong > 1200 {
		t.Error("items that are wrong:", wrong)
	}
}

// inTheWay: is it a function that an item calls, with other kinds than the
// maker's of that name? The first of a name is the one that is called.
func (m *maker) inTheWay(t *testing.T, own, s string) bool {
	it := parsed(t, s)
	if it.Kind != syntax.Fn || !slices.Contains(base.Calls(parsed(t, own)), it.Name) {
		return false
	}
	return !slices.ContainsFunc(m.heads, func(h fnHead) bool { return h.name == it.Name && hasKinds(it, h) })
}

func hasKinds(it item, h fnHead) bool {
	return base.KindOf(it.Result) == h.result &&
		slices.EqualFunc(it.Params, h.params, func(p syntax.Param, k kind) bool { return base.KindOf(p.Type) == k })
}

// TestCalledKindsSay: the kinds of what an item calls, and whether it is there.
func TestCalledKindsSay(t *testing.T) {
	right(t, "fn own() -> int = g(1, true); fn g(x: int, y: bool) -> int = x;")
	checks(t, "fn own() -> int = [g(1, true)];", api.ErrName)
	checks(t, "fn own() -> int = [g(1, true)]; fn g(x: int) -> int = x;", api.ErrArgs)
	checks(t, "fn own() -> int = [g(1, true)]; fn g(x: int, y: bool, z: int) -> int = x;", api.ErrArgs)
	checks(t, "fn own() -> int = g([1], true); fn g(x: bool, y: bool) -> int = 1;", api.ErrType)
	checks(t, "fn own() -> int = g(1, [true]); fn g(x: int, y: int) -> int = 1;", api.ErrType)
	checks(t, "fn own() -> int = [g(1, true)]; fn g(x: int, y: bool) -> bool = y;", api.ErrType)
	checks(t, "fn own(a: arr 3) -> int = g([a]); fn g(x: arr 2) -> int = 1;", api.ErrType)
	checks(t, "fn own() -> arr 3 = [g()]; fn g() -> arr 2 = fill(2, 0);", api.ErrType)
	// Not the predicates, and not the bodies.
	right(t, "fn own() -> int = g(1, true); fn g(x: int{v > 7}, y: bool{not v}) -> int{v < 0} = 1 / 0; pub fn h(x: int) -> int = x;")
}

// TestItselfCalled: by its own head.
func TestItselfCalled(t *testing.T) {
	right(t, "fn f(x: int, a: arr 2) -> bool = f(x - 1, set(a, 0, x)) or f(0, a);")
	checks(t, "fn f(x: int) -> bool = f([f(x)]);", api.ErrType)
	checks(t, "fn f(x: int) -> int = f(x) + [f()];", api.ErrArgs)
}
