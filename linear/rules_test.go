package linear_test

import (
	"reflect"
	"slices"
	"testing"

	"whetstone/big"
	"whetstone/linear"
)

// mark stands in the spare room of what is handed in.
func mark() part { return part{Var: 77, Coef: big.Of(77)} }

// roomy is a sum in memory of its own, with spare room behind its lists.
func roomy(a term) term {
	out := term{Const: roomyNumber(a.Const), Parts: make([]part, 0, len(a.Parts)+3)}
	for _, p := range a.Parts {
		out.Parts = append(out.Parts, part{Var: p.Var, Coef: roomyNumber(p.Coef)})
	}
	whole := out.Parts[:cap(out.Parts)]
	for i := len(out.Parts); i < len(whole); i++ {
		whole[i] = mark()
	}
	return out
}

func roomyNumber(a big.Int) big.Int {
	mag := append(append([]uint32{}, a.Mag...), 99, 99)
	return big.Int{Neg: a.Neg, Mag: mag[:len(a.Mag)]}
}

// unfolded is a copy of a sum in which the spare room is part of the lists.
func unfolded(a term) term {
	out := term{Const: a.Const, Parts: slices.Clone(a.Parts[:cap(a.Parts)])}
	out.Const.Mag = slices.Clone(a.Const.Mag[:cap(a.Const.Mag)])
	for i, p := range out.Parts {
		out.Parts[i].Coef.Mag = slices.Clone(p.Coef.Mag[:cap(p.Coef.Mag)])
	}
	return out
}

// number is an answer that is no sum, as one.
func number(n int) term { return linear.Of(big.Of(int64(n))) }

func truth(b bool) term {
	if b {
		return number(1)
	}
	return number(0)
}

// calls are all calls that are given sums, with what they answer, as sums.
func calls() map[string]func(a, b term) term {
	v := 2
	return map[string]func(a, b term) term{
		"Norm":    func(a, _ term) term { return linear.Norm(a) },
		"Of":      func(a, _ term) term { return linear.Of(a.Const) },
		"Add":     linear.Add,
		"Sub":     linear.Sub,
		"Scale":   func(a, b term) term { return linear.Scale(a, b.Const) },
		"Coef":    func(a, _ term) term { return term{Const: linear.Coef(a, v)} },
		"Without": func(a, _ term) term { return linear.Without(a, v) },
		"Subst":   func(a, b term) term { return linear.Subst(a, v, b) },
		"IsConst": func(a, _ term) term { return truth(linear.IsConst(a)) },
		"Eval": func(a, b term) term {
			var l []binding
			for _, p := range b.Parts {
				l = append(l, binding{Var: p.Var, N: p.Coef})
			}
			return term{Const: linear.Eval(a, l)}
		},
		"Equal":   func(a, b term) term { return truth(linear.Equal(a, b)) },
		"Content": func(a, _ term) term { return term{Const: linear.Content(a)} },
		"Text": func(a, _ term) term {
			var out term
			for i, c := range []byte(linear.Text(a)) {
				out.Parts = append(out.Parts, part{Var: i, Coef: big.Of(int64(c))})
			}
			return out
		},
		"Vars": func(a, _ term) term {
			var out term
			for v, n := range linear.Vars(a) {
				out.Parts = append(out.Parts, part{Var: v, Coef: n})
			}
			return out
		},
	}
}

func same(a, b term) bool {
	return sameInt(a.Const, b.Const) && slices.EqualFunc(a.Parts, b.Parts, func(p, q part) bool {
		return p.Var == q.Var && sameInt(p.Coef, q.Coef)
	})
}

func sameInt(a, b big.Int) bool { return a.Neg == b.Neg && slices.Equal(a.Mag, b.Mag) }

// scribble writes over Parts and all of their spare room. (Limbs may be shared.)
func scribble(a term) {
	l := a.Parts[:cap(a.Parts)]
	for i := range l {
		l[i] = part{Var: -l[i].Var - 1, Coef: big.Of(-99)}
	}
}

// memory is P11.3 and rule 4 of one call: what is handed in isn't changed, its
// spare room neither, and not read; Parts that are answered are new.
func memory(t *testing.T, name string, call func(a, b term) term, x, y term) {
	t.Helper()
	a, b := roomy(x), roomy(y)
	wantA, wantB := unfolded(a), unfolded(b)
	unchanged := func() bool {
		return reflect.DeepEqual(unfolded(a), wantA) && reflect.DeepEqual(unfolded(b), wantB)
	}
	first, second := call(a, b), call(a, b)
	want := call(x, y)
	if !unchanged() {
		t.Fatalf("%s changes what it is given: %v, %v", name, x, y)
	}
	if !same(first, want) || !same(second, want) {
		t.Fatalf("%s answers %v and %v, not %v", name, first, second, want)
	}
	scribble(first)
	if !unchanged() {
		t.Fatalf("an answer of %s is a piece of what it is given: %v, %v", name, x, y)
	}
	if !same(second, want) {
		t.Fatalf("two answers of %s share their Parts: %v, %v", name, x, y)
	}
	scribble(a)
	scribble(b)
	if !same(second, want) {
		t.Fatalf("Parts of an answer of %s aren't new: %v, %v", name, x, y)
	}
}

func TestMemory(t *testing.T) {
	for name, call := range calls() {
		for _, a := range samples() {
			for _, b := range samples() {
				memory(t, name, call, a, b)
			}
		}
		m := newMaker(7)
		for range 1000 {
			memory(t, name, call, m.term(), m.term())
		}
	}
	first, second := linear.Var(3), linear.Var(3)
	scribble(first)
	if linear.Text(second) != "1*x3" {
		t.Error("two answers of Var share their Parts")
	}
}

// One sum may be handed in twice.
func TestTheSameSumTwice(t *testing.T) {
	for name, call := range calls() {
		for _, x := range samples() {
			a := roomy(x)
			want := unfolded(a)
			if got := call(a, a); !same(got, call(x, roomy(x))) {
				t.Errorf("%s of one sum twice is another: %v", name, got)
			}
			if !reflect.DeepEqual(unfolded(a), want) {
				t.Errorf("%s of one sum twice changes it: %v", name, x)
			}
		}
	}
}

// What a call answers hangs on the sums alone, not on how they are written; of
// bindings Eval takes the first, so that b is held in its one form there.
func TestFormsOfOneSumAreOne(t *testing.T) {
	for name, call := range calls() {
		pairs(func(a, b term) {
			want := call(linear.Norm(a), linear.Norm(b))
			if got := call(a, linear.Norm(b)); !same(got, want) {
				t.Fatalf("%s hangs on the form of %v: %v", name, a, got)
			}
			if got := call(a, b); name != "Eval" && !same(got, want) {
				t.Fatalf("%s hangs on the form of %v: %v", name, b, got)
			}
		})
	}
}

func TestBindingsStayAsTheyAre(t *testing.T) {
	m := newMaker(8)
	for range 1000 {
		l := append(m.bindings(), binding{Var: 1, N: big.Of(55)})
		want := slices.Clone(l)
		a := m.term()
		first := linear.Eval(a, l[:len(l)-1])
		if !reflect.DeepEqual(l, want) {
			t.Fatal("Eval changes bindings", want)
		}
		if !sameInt(first, linear.Eval(a, slices.Clone(l[:len(l)-1]))) {
			t.Fatal("Eval reads the room behind bindings", want)
		}
	}
}

// varsOf is what an iterator goes through, left behind so many.
func varsOf(a term, most int) []int {
	var l []int
	for v := range linear.Vars(a) {
		if len(l) == most {
			break
		}
		l = append(l, v)
	}
	return l
}

// Rule 8: Vars may be left at any place, gone through again, and within itself.
func TestVarsLeftAndGoneThroughAgain(t *testing.T) {
	for _, a := range samples() {
		want := meaning(a).vars()
		for n := range len(want) + 1 {
			if got := varsOf(a, n); !slices.Equal(got, want[:n]) {
				t.Fatalf("Vars of %v, left behind %d: %v", a, n, got)
			}
		}
		vars := linear.Vars(a)
		if vars == nil {
			t.Fatal("Vars is nil")
		}
		for range 2 {
			i := 0
			for v, n := range vars {
				for w, m := range vars {
					if w == v && !sameInt(n, m) {
						t.Fatalf("Vars of %v within itself", a)
					}
				}
				if v != want[i] {
					t.Fatalf("Vars of %v again: %d", a, v)
				}
				i++
			}
			if i != len(want) {
				t.Fatalf("Vars of %v ends behind %d", a, i)
			}
		}
	}
}

func TestVarsAreNotToldBehindLeaving(t *testing.T) {
	for _, a := range samples() {
		told := 0
		linear.Vars(a)(func(int, big.Int) bool {
			told++
			return false
		})
		if told > 1 || (told == 0) != linear.IsConst(a) {
			t.Errorf("Vars of %v was left once, and told %d", a, told)
		}
	}
}

// What becomes of the Parts behind the call is no matter of the iterator.
func TestVarsKeepNothing(t *testing.T) {
	for _, x := range samples() {
		a := roomy(x)
		vars := linear.Vars(a)
		scribble(a)
		var got []part
		for v, n := range vars {
			got = append(got, part{Var: v, Coef: n})
		}
		if !same(term{Parts: got}, term{Parts: linear.Norm(x).Parts}) {
			t.Fatalf("Vars of %v goes through %v, its Parts being changed", x, got)
		}
	}
}

// Rule 3.
func TestNilAndEmptyAreOne(t *testing.T) {
	for name, call := range calls() {
		for _, b := range samples() {
			full := term{Const: big.Of(4), Parts: []part{}}
			if !same(call(full, b), call(term{Const: big.Of(4)}, b)) || !same(call(b, full), call(b, term{Const: big.Of(4)})) {
				t.Errorf("%s of no parts: nil and empty aren't one", name)
			}
		}
	}
	if !sameInt(linear.Eval(linear.Var(1), []binding{}), linear.Eval(linear.Var(1), nil)) {
		t.Error("Eval of no bindings")
	}
}
