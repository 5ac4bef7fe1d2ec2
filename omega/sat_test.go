package omega_test

import (
	"slices"
	"testing"

	"whetstone/big"
	"whetstone/linear"
	"whetstone/omega"
)

// The tests of this file are of P12.1, with numbers of small size: Sat is true
// just if there are whole numbers by which all conditions hold.

func TestAgainstBoxes(t *testing.T) {
	m := newMaker(1)
	answers := map[bool]int{}
	for range 15000 {
		n := 1 + m.Intn(3)
		most := 1 + m.Int63n(6)
		rows := m.boxed(n, most)
		want := inBox(rows, n, most)
		satIs(t, want, consOf(rows))
		answers[want]++
	}
	for range 1000 {
		rows := m.boxed(4, 2)
		satIs(t, inBox(rows, 4, 2), consOf(rows))
	}
	if answers[true] < 4000 || answers[false] < 4000 {
		t.Error("systems of each kind:", answers)
	}
}

// someSecond: is there a second number by which all conditions hold, the first
// being x?
func someSecond(rows []row, x int64) bool {
	low, high := int64(-1<<40), int64(1<<40)
	for _, r := range rows {
		n, k := r.number+r.coefs[0]*x, r.coefs[1]
		switch {
		case k == 0 && !(row{number: n, eq: r.eq}).holds(nil):
			return false
		case k == 0:
			continue
		case r.eq && n%k != 0:
			return false
		}
		edge, _ := big.Small(first(big.Ceil(big.Of(-n), big.Of(k))))
		if k > 0 || r.eq {
			low = max(low, edge)
		}
		edge, _ = big.Small(first(big.Floor(big.Of(-n), big.Of(k))))
		if k < 0 || r.eq {
			high = min(high, edge)
		}
	}
	return low <= high
}

func first[A, B any](a A, _ B) A { return a }

// TestWithoutBounds: if two variables with such small numbers have a solution,
// they have one whose first number is at most 3 times the greatest determinant of
// three rows: so far they are gone through.
func TestWithoutBounds(t *testing.T) {
	const coef, number = 4, 9
	const far = 3 * 6 * coef * coef * number
	m := newMaker(2)
	answers := map[bool]int{}
	for range 1500 {
		rows := m.rows(1+m.Intn(6), 2, coef, number)
		want := false
		for x := int64(0); x <= far && !want; x++ {
			want = someSecond(rows, x) || someSecond(rows, -x)
		}
		satIs(t, want, consOf(rows))
		answers[want]++
	}
	if answers[true] < 200 || answers[false] < 200 {
		t.Error("systems of each kind:", answers)
	}
}

func TestOneVariable(t *testing.T) {
	for k := int64(-4); k <= 4; k++ {
		for n := int64(-9); n <= 9; n++ {
			satIs(t, inBox([]row{{n, []int64{k}, true}}, 1, 9), consOf([]row{{n, []int64{k}, true}}))
			for room := int64(0); room <= 4; room++ {
				rows := []row{{n, []int64{k}, false}, {room - n, []int64{-k}, false}}
				satIs(t, inBox(rows, 1, 13), consOf(rows))
			}
		}
	}
}

// Conditions that hang on no variable are so or aren't, whatever they are with.
func TestConditionsWithoutVariables(t *testing.T) {
	gone := linear.Term{Parts: []linear.Part{{Var: 4, Coef: big.Of(3)}, {Var: 4, Coef: big.Of(-3)}, {Var: 5}}}
	for n := int64(-2); n <= 2; n++ {
		for _, eq := range []bool{false, true} {
			want := n == 0 || n > 0 && !eq
			number := linear.Of(big.Of(n))
			for _, c := range []cons{{number, eq}, {linear.Term{Const: big.Of(n), Parts: gone.Parts}, eq}} {
				satIs(t, want, []cons{c})
				satIs(t, want, []cons{{T: sum(-3, 1)}, c, {T: sum(5, -1)}})
				satIs(t, false, []cons{{T: sum(-3, 1)}, c, {T: sum(2, -1)}})
				if bindings, ok := omega.Sat([]cons{c}); len(bindings) > 0 || ok != want {
					t.Errorf("Sat of %s binds %v", texts([]cons{c}), bindings)
				}
			}
		}
	}
}

func TestNoCondition(t *testing.T) {
	for _, l := range [][]cons{nil, {}} {
		if bindings, ok := omega.Sat(l); !ok || len(bindings) > 0 {
			t.Error("Sat of nothing", bindings, ok)
		}
	}
}

// Shapes without an end: all variables are bound on both sides, and still one may
// go on for ever, by steps of more than one of them.
func TestShapesWithoutAnEnd(t *testing.T) {
	yes := [][]row{
		{{-1, []int64{3, -2}, false}, {-1, []int64{-5, 7}, false}},
		{{-100, []int64{3, -2}, false}, {-100, []int64{-2, 5}, false}, {-100, []int64{4, -3}, false}},
		{{-1, []int64{2, 2, -3}, false}, {-1, []int64{2, -3, 2}, false}, {-1, []int64{-3, 2, 2}, false}},
		{{-1, []int64{3, -5}, false}, {2, []int64{-3, 5}, false}, {-1000, []int64{2, 7}, false}},
		{{-7, []int64{6, -10, 15}, false}, {7, []int64{-6, 10, -15}, false}, {-99, []int64{2, 3, 4}, false}},
		{{-7, []int64{6, -10, 15}, true}, {-99, []int64{2, 3, 4}, false}, {-99, []int64{5, 3, -4}, false}},
	}
	no := [][]row{
		{{-1, []int64{4, -6}, false}, {1, []int64{-4, 6}, false}},
		{{-1, []int64{3, -3}, false}, {2, []int64{-3, 3}, false}, {-1000, []int64{2, 7}, false}},
		{{-1, []int64{3, -2}, false}, {-1, []int64{-5, 3}, false}, {-1, []int64{1, 1}, false}, {-1, []int64{5, -3}, false}},
		{{-7, []int64{6, -10, 14}, true}, {-99, []int64{2, 3, 4}, false}},
	}
	for low := int64(-12); low <= -8; low++ {
		far := []row{{-1, []int64{1, 0, 3, -2}, false}, {-1, []int64{0, 1, -5, 7}, false}}
		for _, r := range thin(low, 4) {
			far = append(far, row{r.number, append(slices.Clone(r.coefs), 0, 0), false})
		}
		if inBox(thin(low, 4), 2, 20) {
			yes = append(yes, far)
		} else {
			no = append(no, far)
		}
	}
	for _, rows := range yes {
		satIs(t, true, consOf(rows))
	}
	for _, rows := range no {
		satIs(t, false, consOf(rows))
	}
}

// Which sums can be paid with three kinds of coins?
func TestCoins(t *testing.T) {
	const a, b, c = 6, 10, 15
	made := map[int]int{0: 1}
	for n := 1; n <= 60; n++ {
		made[n] = made[n-a] + made[n-b] + made[n-c]
		l := consOf([]row{{int64(-n), []int64{a, b, c}, true}, {0, []int64{1, 0, 0}, false}, {0, []int64{0, 1, 0}, false}, {0, []int64{0, 0, 1}, false}})
		satIs(t, made[n] > 0, l)
	}
}

func TestHolds(t *testing.T) {
	l := []linear.Binding{{Var: 0, N: big.Of(3)}, {Var: 1, N: big.Of(-2)}, {Var: 0, N: big.Of(50)}}
	for _, c := range []struct {
		t       linear.Term
		sign    int
		letters string
	}{
		{sum(0), 0, "0"}, {sum(1), 1, "1"}, {sum(-1), -1, "-1"},
		{sum(-3, 1), 0, "the first binding"}, {sum(-4, 1), -1, "x0 - 4"}, {sum(-2, 1), 1, "x0 - 2"},
		{sum(0, 2, 3), 0, "2 x0 + 3 x1"}, {sum(0, 0, 0, 7), 0, "a variable that isn't bound"}, {sum(-1, 0, 0, 7), -1, "7 x2 - 1"},
	} {
		if got := omega.Holds(cons{T: c.t}, l); got != (c.sign >= 0) {
			t.Errorf("Holds of %s, 0 or more: %v", c.letters, got)
		}
		if got := omega.Holds(cons{T: c.t, Eq: true}, l); got != (c.sign == 0) {
			t.Errorf("Holds of %s, 0: %v", c.letters, got)
		}
	}
	m := newMaker(3)
	for range 2000 {
		r := m.row(3, 5, 9)
		x := []int64{m.within(9), m.within(9), m.within(9)}
		var l []linear.Binding
		for i, n := range x {
			l = append(l, linear.Binding{Var: i, N: big.Of(n)})
		}
		if got := omega.Holds(consOf([]row{r})[0], l); got != r.holds(x) {
			t.Fatalf("Holds of %v by %v: %v", r, x, got)
		}
	}
}

// thin is the chapter's narrow shape: 27 <= 11 x + 13 y <= 45 and
// low <= 7 x - 9 y <= high.
func thin(low, high int64) []row {
	return []row{{-27, []int64{11, 13}, false}, {45, []int64{-11, -13}, false}, {-low, []int64{7, -9}, false}, {high, []int64{-7, 9}, false}}
}

// The chapter's examples, and the document's fifth one.
func TestExamples(t *testing.T) {
	satIs(t, false, []cons{{T: sum(-1, 3), Eq: true}})
	satIs(t, true, []cons{{T: sum(-1, 2, 3), Eq: true}})
	satIs(t, false, []cons{{T: sum(-2, 5)}, {T: sum(4, -5)}})
	satIs(t, false, consOf(thin(-10, 4)))
}

func TestThinShapes(t *testing.T) {
	for low := int64(-20); low <= 20; low++ {
		for high := low - 1; high <= low+15; high++ {
			satIs(t, inBox(thin(low, high), 2, 20), consOf(thin(low, high)))
		}
	}
}

// strips: n <= a x + b y <= n + room, for each {n, room, a, b}.
func strips(l ...[4]int64) []row {
	var rows []row
	for _, s := range l {
		rows = append(rows, row{-s[0], []int64{s[2], s[3]}, false}, row{s[0] + s[1], []int64{-s[2], -s[3]}, false})
	}
	return rows
}

// Two shapes that have little to do with each other: one of them may be empty,
// whatever the other one is.
func TestShapesWithALink(t *testing.T) {
	shapes := [][]row{
		thin(-12, 4), thin(-10, 4), thin(-10, 5),
		strips([4]int64{19, 3, -1, 6}, [4]int64{-28, 6, -4, -8}),
		strips([4]int64{7, 8, 9, 5}, [4]int64{3, 6, 9, 4}, [4]int64{5, 9, -3, 6}),
		strips([4]int64{1, 3, -5, -4}, [4]int64{-3, 9, -3, 5}),
		strips([4]int64{24, 4, 6, -9}, [4]int64{9, 9, 5, -6}, [4]int64{0, 8, -7, 6}),
		strips([4]int64{9, 9, -8, 3}, [4]int64{-5, 5, 6, 7}),
		strips([4]int64{15, 9, 5, 3}, [4]int64{17, 7, 0, 6}, [4]int64{20, 6, 4, 5}),
	}
	for _, a := range shapes {
		for _, b := range shapes {
			rows := []row{{1000, []int64{3, 0, -2, 0}, false}, {1000, []int64{-3, 0, 2, 0}, false}}
			for _, r := range a {
				rows = append(rows, row{r.number, append(slices.Clone(r.coefs), 0, 0), false})
			}
			for _, r := range b {
				rows = append(rows, row{r.number, append([]int64{0, 0}, r.coefs...), false})
			}
			want := inBox(a, 2, 40) && inBox(b, 2, 40)
			satIs(t, want, consOf(rows))
			if !want {
				coreOf(t, consOf(rows))
			}
		}
	}
}

// Many conditions that hang together, one by one.
func TestLongChains(t *testing.T) {
	for _, n := range []int{1, 10, 120} {
		var rising, told []cons
		for i := range n {
			rising = append(rising, cons{T: linear.Sub(linear.Var(i+1), linear.Add(linear.Var(i), sum(1)))})
			told = append(told, cons{T: linear.Sub(linear.Var(i+1), linear.Add(linear.Scale(linear.Var(i), big.Of(3)), sum(1))), Eq: true})
		}
		length := linear.Sub(linear.Var(n), linear.Var(0))
		satIs(t, true, rising)
		satIs(t, true, append(rising[:n:n], cons{T: linear.Sub(sum(int64(n)), length)}))
		satIs(t, false, append(rising[:n:n], cons{T: linear.Sub(sum(int64(n-1)), length)}))
		satIs(t, true, told)
		// From 0 on they are 0, 1, 4, 13, ..
		satIs(t, n > 1, append(told[:n:n], cons{T: linear.Sub(linear.Var(n), sum(4))}, cons{T: sum(0, -1)}))
	}
}
