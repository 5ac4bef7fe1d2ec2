package big_test

import (
	"math/rand"
	"slices"
	"testing"

	"whetstone/big"
)

// mark stands in the spare room of what is handed in.
const mark = 0xdeadbeef

// roomy is a number whose limbs have spare room, and the whole of their memory.
func roomy(a big.Int) (big.Int, []uint32) {
	whole := append(append([]uint32{}, a.Mag...), mark, mark, mark, mark)
	return big.Int{Neg: a.Neg, Mag: whole[:len(a.Mag)]}, whole
}

// calls are all calls of two numbers or one, with all numbers that they answer;
// other answers are written as numbers, so that all are held against each other alike.
func calls() map[string]func(a, b big.Int) []big.Int {
	flag := func(b bool) big.Int {
		if b {
			return big.Of(1)
		}
		return big.Of(0)
	}
	return map[string]func(a, b big.Int) []big.Int{
		"Norm":  func(a, _ big.Int) []big.Int { return []big.Int{big.Norm(a)} },
		"Small": func(a, _ big.Int) []big.Int { n, ok := big.Small(a); return []big.Int{big.Of(n), flag(ok)} },
		"Sign":  func(a, _ big.Int) []big.Int { return []big.Int{big.Of(int64(big.Sign(a)))} },
		"Cmp":   func(a, b big.Int) []big.Int { return []big.Int{big.Of(int64(big.Cmp(a, b)))} },
		"Neg":   func(a, _ big.Int) []big.Int { return []big.Int{big.Neg(a)} },
		"Abs":   func(a, _ big.Int) []big.Int { return []big.Int{big.Abs(a)} },
		"Add":   func(a, b big.Int) []big.Int { return []big.Int{big.Add(a, b)} },
		"Sub":   func(a, b big.Int) []big.Int { return []big.Int{big.Sub(a, b)} },
		"Mul":   func(a, b big.Int) []big.Int { return []big.Int{big.Mul(a, b)} },
		"DivMod": func(a, b big.Int) []big.Int {
			q, r, e := big.DivMod(a, b)
			return []big.Int{q, r, big.Of(int64(e))}
		},
		"Floor":   func(a, b big.Int) []big.Int { q, e := big.Floor(a, b); return []big.Int{q, big.Of(int64(e))} },
		"Ceil":    func(a, b big.Int) []big.Int { q, e := big.Ceil(a, b); return []big.Int{q, big.Of(int64(e))} },
		"Gcd":     func(a, b big.Int) []big.Int { return []big.Int{big.Gcd(a, b)} },
		"Divides": func(a, b big.Int) []big.Int { return []big.Int{flag(big.Divides(a, b))} },
		"Min":     func(a, b big.Int) []big.Int { return []big.Int{big.Min(a, b)} },
		"Max":     func(a, b big.Int) []big.Int { return []big.Int{big.Max(a, b)} },
		"Text": func(a, _ big.Int) []big.Int {
			var out []big.Int
			for _, letter := range big.Text(a) {
				out = append(out, big.Of(int64(letter)))
			}
			return out
		},
	}
}

func equal(a, b big.Int) bool { return a.Neg == b.Neg && slices.Equal(a.Mag, b.Mag) }

func equalLists(a, b []big.Int) bool { return slices.EqualFunc(a, b, equal) }

func copies(l []big.Int) []big.Int {
	var out []big.Int
	for _, a := range l {
		out = append(out, big.Int{Neg: a.Neg, Mag: append([]uint32{}, a.Mag...)})
	}
	return out
}

// scribble writes over limbs and over all of their spare room.
func scribble(mag []uint32) {
	mag = mag[:cap(mag)]
	for i := range mag {
		mag[i] = ^mag[i]
	}
}

// memory is P2.3 and rule 4 of one call: what is handed in isn't changed, its
// spare room neither; an answer shares memory with nothing.
func memory(t *testing.T, name string, call func(a, b big.Int) []big.Int, x, y big.Int) {
	t.Helper()
	a, wholeA := roomy(x)
	b, wholeB := roomy(y)
	_, wantA := roomy(x)
	_, wantB := roomy(y)
	first := call(a, b)
	second := call(a, b)
	want := copies(first)
	if !slices.Equal(wholeA, wantA) || !slices.Equal(wholeB, wantB) {
		t.Fatalf("%s changes what it is given: %v, %v", name, x, y)
	}
	if !equalLists(first, second) {
		t.Fatalf("%s answers two things for %v, %v", name, x, y)
	}
	for i := range first {
		scribble(first[i].Mag)
		if !equalLists(first[i+1:], want[i+1:]) {
			t.Fatalf("two numbers of %s share memory: %v, %v", name, x, y)
		}
	}
	if !slices.Equal(wholeA, wantA) || !slices.Equal(wholeB, wantB) {
		t.Fatalf("an answer of %s is a piece of what it is given: %v, %v", name, x, y)
	}
	scribble(wholeA)
	scribble(wholeB)
	if !equalLists(second, want) {
		t.Fatalf("an answer of %s isn't new memory: %v, %v", name, x, y)
	}
}

func TestMemory(t *testing.T) {
	for name, call := range calls() {
		for _, a := range samples() {
			for _, b := range samples() {
				memory(t, name, call, a, b)
			}
		}
		source := rand.New(rand.NewSource(2))
		for range 1000 {
			memory(t, name, call, someNumber(source, 6), someNumber(source, 4))
		}
	}
}

// One number may be handed in twice.
func TestTheSameNumberTwice(t *testing.T) {
	for name, call := range calls() {
		for _, x := range samples() {
			a, whole := roomy(x)
			_, want := roomy(x)
			if !equalLists(call(a, a), call(x, copies([]big.Int{x})[0])) {
				t.Errorf("%s of one number twice is another: %v", name, x)
			}
			if !slices.Equal(whole, want) {
				t.Errorf("%s of one number twice changes it: %v", name, x)
			}
		}
	}
}

// Of and Parse are given no number: their answers must not be shared either.
func TestMemoryOfMadeNumbers(t *testing.T) {
	for _, n := range smallSamples() {
		first, second := big.Of(n), big.Of(n)
		scribble(first.Mag)
		if got, ok := big.Small(second); got != n || !ok {
			t.Errorf("Of(%d) shares its answer", n)
		}
	}
	for _, s := range []string{"0", "-1", "-12345678901234567890123"} {
		first, _ := big.Parse(s)
		second, _ := big.Parse(s)
		scribble(first.Mag)
		if got := big.Text(second); got != s {
			t.Errorf("Parse(%q) shares its answer: %s", s, got)
		}
	}
}

// Rule 3, and what a number is: forms of one number are one.
func TestFormsOfOneNumberAreOne(t *testing.T) {
	for name, call := range calls() {
		for _, a := range samples() {
			for _, b := range samples() {
				longA := big.Int{Neg: a.Neg, Mag: append(append([]uint32{}, a.Mag...), 0, 0)}
				longB := big.Int{Neg: b.Neg, Mag: append(append([]uint32{}, b.Mag...), 0)}
				want := call(big.Norm(a), big.Norm(b))
				if !equalLists(call(a, b), want) || !equalLists(call(longA, b), want) || !equalLists(call(a, longB), want) {
					t.Fatalf("%s hangs on the form of %v, %v", name, a, b)
				}
			}
		}
	}
}
