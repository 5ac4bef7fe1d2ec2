package nat_test

import (
	"math/rand"
	"slices"
	"testing"

	"whetstone/nat"
)

// mark stands in the spare room of what is handed in.
const mark = 0xdeadbeef

// roomy is a list with spare room, and the whole of its memory.
func roomy(a []uint32) (list, whole []uint32) {
	whole = append(append([]uint32{}, a...), mark, mark, mark, mark)
	return whole[:len(a)], whole
}

// word is an answer that is no list, as one, so that all answers can be held
// against each other alike.
func word(n int) [][]uint32 { return [][]uint32{{uint32(n)}} }

func flag(b bool) [][]uint32 {
	if b {
		return word(1)
	}
	return word(0)
}

func letters(s string) [][]uint32 {
	var out []uint32
	for i := range len(s) {
		out = append(out, uint32(s[i]))
	}
	return [][]uint32{out}
}

// calls are all calls that take lists, with all that they answer.
func calls() map[string]func(a, b []uint32) [][]uint32 {
	return map[string]func(a, b []uint32) [][]uint32{
		"Norm":   func(a, _ []uint32) [][]uint32 { return [][]uint32{nat.Norm(a)} },
		"Cmp":    func(a, b []uint32) [][]uint32 { return word(nat.Cmp(a, b)) },
		"IsZero": func(a, _ []uint32) [][]uint32 { return flag(nat.IsZero(a)) },
		"Add":    func(a, b []uint32) [][]uint32 { return [][]uint32{nat.Add(a, b)} },
		"Sub": func(a, b []uint32) [][]uint32 {
			d, e := nat.Sub(a, b)
			return append(word(int(e)), d)
		},
		"Mul": func(a, b []uint32) [][]uint32 { return [][]uint32{nat.Mul(a, b)} },
		"DivMod": func(a, b []uint32) [][]uint32 {
			q, r, e := nat.DivMod(a, b)
			return append(word(int(e)), q, r)
		},
		"Gcd": func(a, b []uint32) [][]uint32 { return [][]uint32{nat.Gcd(a, b)} },
		"Shift by 0": func(a, _ []uint32) [][]uint32 {
			s, e := nat.Shift(a, 0)
			return append(word(int(e)), s)
		},
		"Shift": func(a, _ []uint32) [][]uint32 {
			s, e := nat.Shift(a, 37)
			return append(word(int(e)), s)
		},
		"Bits": func(a, _ []uint32) [][]uint32 { return word(nat.Bits(a)) },
		"Text": func(a, _ []uint32) [][]uint32 { return letters(nat.Text(a)) },
	}
}

func copies(lists [][]uint32) [][]uint32 {
	var out [][]uint32
	for _, l := range lists {
		out = append(out, append([]uint32{}, l...))
	}
	return out
}

func equalLists(a, b [][]uint32) bool { return slices.EqualFunc(a, b, slices.Equal) }

// scribble writes over a list and over all of its spare room.
func scribble(a []uint32) {
	a = a[:cap(a)]
	for i := range a {
		a[i] = ^a[i]
	}
}

// memory is P1.3 and rule 4 of one call: what is handed in isn't changed, its
// spare room neither; an answer shares memory with nothing.
func memory(t *testing.T, name string, call func(a, b []uint32) [][]uint32, x, y []uint32) {
	t.Helper()
	a, wholeA := roomy(x)
	b, wholeB := roomy(y)
	_, wantA := roomy(x)
	_, wantB := roomy(y)
	first := call(a, b)
	second := call(a, b)
	want := copies(first)
	if !slices.Equal(wholeA, wantA) || !slices.Equal(wholeB, wantB) {
		t.Fatalf("%s changes what it is given: %v, %v", name, x, y)
	}
	if !equalLists(first, second) {
		t.Fatalf("%s answers two things for %v, %v", name, x, y)
	}
	for i := range first {
		scribble(first[i])
		if !equalLists(first[i+1:], want[i+1:]) {
			t.Fatalf("two lists of %s share memory: %v, %v", name, x, y)
		}
	}
	if !slices.Equal(wholeA, wantA) || !slices.Equal(wholeB, wantB) {
		t.Fatalf("an answer of %s is a piece of what it is given: %v, %v", name, x, y)
	}
	scribble(wholeA)
	scribble(wholeB)
	if !equalLists(second, want) {
		t.Fatalf("an answer of %s isn't new memory: %v, %v", name, x, y)
	}
}

func TestMemory(t *testing.T) {
	for name, call := range calls() {
		for _, a := range samples() {
			for _, b := range samples() {
				memory(t, name, call, a, b)
			}
		}
		source := rand.New(rand.NewSource(5))
		for range 2000 {
			memory(t, name, call, someNumber(source, 9), someNumber(source, 6))
		}
	}
}

// One list may be handed in twice.
func TestTheSameListTwice(t *testing.T) {
	for name, call := range calls() {
		for _, x := range samples() {
			a, whole := roomy(x)
			_, want := roomy(x)
			other := append([]uint32{}, x...)
			if !equalLists(call(a, a), call(x, other)) {
				t.Errorf("%s of one list twice is another: %v", name, x)
			}
			if !slices.Equal(whole, want) {
				t.Errorf("%s of one list twice changes it: %v", name, x)
			}
		}
	}
}

// Of and Parse are given no list: their answers must not be shared either.
func TestMemoryOfMadeNumbers(t *testing.T) {
	for _, n := range []uint64{0, 1, 1 << 40} {
		first, second := nat.Of(n), nat.Of(n)
		scribble(first)
		check(t, "Of", second, value(nat.Of(n)))
	}
	for _, s := range []string{"0", "1", "12345678901234567890123"} {
		first, _ := nat.Parse(s)
		second, _ := nat.Parse(s)
		scribble(first)
		if got := nat.Text(second); got != s {
			t.Errorf("Parse(%q) shares its answer: %s", s, got)
		}
	}
}

// Rule 3, and the chapter's limbs 0 at an end: lists of one number are one.
func TestListsOfOneNumberAreOne(t *testing.T) {
	for name, call := range calls() {
		for _, a := range samples() {
			for _, b := range samples() {
				longA := append(append([]uint32{}, a...), 0, 0, 0)
				longB := append(append([]uint32{}, b...), 0)
				want := call(nat.Norm(a), nat.Norm(b))
				if !equalLists(call(longA, b), want) || !equalLists(call(a, longB), want) || !equalLists(call(longA, longB), want) {
					t.Fatalf("%s hangs on limbs 0 at an end: %v, %v", name, a, b)
				}
			}
		}
	}
}
