package big_test

import (
	"math"
	mathbig "math/big"
	"slices"
	"strings"
	"testing"

	"whetstone/api"
	"whetstone/big"
)

// The tests up to the chapter's examples are of P2.1: all calls answer as the
// table says, in the one form.

func TestNormAndOf(t *testing.T) {
	for _, a := range samples() {
		check(t, "Norm", big.Norm(a), value(a))
	}
	for _, n := range smallSamples() {
		check(t, "Of", big.Of(n), mathbig.NewInt(n))
	}
}

func TestSmall(t *testing.T) {
	for _, n := range smallSamples() {
		if got, ok := big.Small(big.Of(n)); got != n || !ok {
			t.Errorf("Small(Of(%d)) = %d, %v", n, got, ok)
		}
	}
	pairs(func(a, _ big.Int) {
		got, ok := big.Small(a)
		want := value(a)
		if ok != want.IsInt64() || ok && got != want.Int64() || !ok && got != 0 {
			t.Fatalf("Small of %v = %d, %v", want, got, ok)
		}
	})
}

func TestSmallAtItsEdges(t *testing.T) {
	cases := []struct {
		text string
		want int64
		ok   bool
	}{
		{"9223372036854775807", math.MaxInt64, true},
		{"9223372036854775808", 0, false},
		{"-9223372036854775808", math.MinInt64, true},
		{"-9223372036854775809", 0, false},
		{"18446744073709551615", 0, false},
		{"-18446744073709551615", 0, false},
		{"18446744073709551616", 0, false},
		{"-18446744073709551616", 0, false},
	}
	for _, c := range cases {
		a, _ := big.Parse(c.text)
		if got, ok := big.Small(a); got != c.want || ok != c.ok {
			t.Errorf("Small of %s = %d, %v", c.text, got, ok)
		}
		a.Mag = append(a.Mag, 0, 0)
		if got, ok := big.Small(a); got != c.want || ok != c.ok {
			t.Errorf("Small of %s with limbs 0 at its end = %d, %v", c.text, got, ok)
		}
	}
}

func TestSignAndCmp(t *testing.T) {
	pairs(func(a, b big.Int) {
		if got, want := big.Sign(a), value(a).Sign(); got != want {
			t.Fatalf("Sign of %v = %d", value(a), got)
		}
		if got, want := big.Cmp(a, b), value(a).Cmp(value(b)); got != want {
			t.Fatalf("Cmp of %v, %v = %d", value(a), value(b), got)
		}
	})
}

func TestNegAndAbs(t *testing.T) {
	pairs(func(a, _ big.Int) {
		check(t, "Neg", big.Neg(a), new(mathbig.Int).Neg(value(a)))
		check(t, "Abs", big.Abs(a), new(mathbig.Int).Abs(value(a)))
	})
}

func TestAddSubMul(t *testing.T) {
	pairs(func(a, b big.Int) {
		check(t, "Add", big.Add(a, b), new(mathbig.Int).Add(value(a), value(b)))
		check(t, "Sub", big.Sub(a, b), new(mathbig.Int).Sub(value(a), value(b)))
		check(t, "Mul", big.Mul(a, b), new(mathbig.Int).Mul(value(a), value(b)))
	})
}

func TestDivMod(t *testing.T) {
	pairs(func(a, b big.Int) {
		q, r, e := big.DivMod(a, b)
		if value(b).Sign() == 0 {
			if e != api.ErrZero || !nothing(q) || !nothing(r) {
				t.Fatalf("DivMod of %v by 0: %v, %v, %v", value(a), q, r, e)
			}
			return
		}
		if e != api.OK {
			t.Fatalf("DivMod of %v, %v: error %v", value(a), value(b), e)
		}
		wantQ, wantR := new(mathbig.Int).DivMod(value(a), value(b), new(mathbig.Int))
		check(t, "the quotient", q, wantQ)
		check(t, "the rest", r, wantR)
	})
}

// rounded is a divided by b by the library's own rule, then moved by at most 1.
func rounded(a, b *mathbig.Int, up bool) *mathbig.Int {
	q, r := new(mathbig.Int).QuoRem(a, b, new(mathbig.Int))
	below := a.Sign()*b.Sign() < 0
	if r.Sign() != 0 && up && !below {
		q.Add(q, mathbig.NewInt(1))
	}
	if r.Sign() != 0 && !up && below {
		q.Sub(q, mathbig.NewInt(1))
	}
	return q
}

func TestFloorAndCeil(t *testing.T) {
	pairs(func(a, b big.Int) {
		floor, e1 := big.Floor(a, b)
		ceil, e2 := big.Ceil(a, b)
		if value(b).Sign() == 0 {
			if e1 != api.ErrZero || e2 != api.ErrZero || !nothing(floor) || !nothing(ceil) {
				t.Fatalf("Floor, Ceil of %v by 0: %v, %v, %v, %v", value(a), floor, e1, ceil, e2)
			}
			return
		}
		if e1 != api.OK || e2 != api.OK {
			t.Fatalf("Floor, Ceil of %v, %v: errors %v, %v", value(a), value(b), e1, e2)
		}
		check(t, "Floor", floor, rounded(value(a), value(b), false))
		check(t, "Ceil", ceil, rounded(value(a), value(b), true))
	})
}

// Rests and roundings of every pair of signs, written out.
func TestDivisionByEverySign(t *testing.T) {
	for _, c := range []struct{ a, b, q, r, floor, ceil int64 }{
		{7, 2, 3, 1, 3, 4}, {-7, 2, -4, 1, -4, -3}, {7, -2, -3, 1, -4, -3}, {-7, -2, 4, 1, 3, 4},
		{6, 2, 3, 0, 3, 3}, {-6, 2, -3, 0, -3, -3}, {6, -2, -3, 0, -3, -3}, {-6, -2, 3, 0, 3, 3},
		{1, 3, 0, 1, 0, 1}, {-1, 3, -1, 2, -1, 0}, {1, -3, 0, 1, -1, 0}, {-1, -3, 1, 2, 0, 1},
		{0, 5, 0, 0, 0, 0}, {0, -5, 0, 0, 0, 0},
	} {
		q, r, e := big.DivMod(big.Of(c.a), big.Of(c.b))
		floor, _ := big.Floor(big.Of(c.a), big.Of(c.b))
		ceil, _ := big.Ceil(big.Of(c.a), big.Of(c.b))
		if e != api.OK {
			t.Fatalf("%v: error %v", c, e)
		}
		check(t, "the quotient", q, mathbig.NewInt(c.q))
		check(t, "the rest", r, mathbig.NewInt(c.r))
		check(t, "Floor", floor, mathbig.NewInt(c.floor))
		check(t, "Ceil", ceil, mathbig.NewInt(c.ceil))
	}
}

func TestGcdAndDivides(t *testing.T) {
	pairs(func(a, b big.Int) {
		gcd := new(mathbig.Int).GCD(nil, nil, new(mathbig.Int).Abs(value(a)), new(mathbig.Int).Abs(value(b)))
		check(t, "Gcd", big.Gcd(a, b), gcd)
		want := value(b).Sign() == 0
		if value(a).Sign() != 0 {
			want = new(mathbig.Int).Rem(value(b), value(a)).Sign() == 0
		}
		if got := big.Divides(a, b); got != want {
			t.Fatalf("Divides of %v, %v = %v", value(a), value(b), got)
		}
		if !big.Divides(a, big.Mul(a, b)) {
			t.Fatalf("%v doesn't divide its product with %v", value(a), value(b))
		}
	})
}

func TestMinAndMax(t *testing.T) {
	pairs(func(a, b big.Int) {
		less, more := value(a), value(b)
		if less.Cmp(more) > 0 {
			less, more = more, less
		}
		check(t, "Min", big.Min(a, b), less)
		check(t, "Max", big.Max(a, b), more)
	})
}

// P2.2: texts and numbers are one to one. Also rule 7: how a number is written.
func TestTextsAndNumbersAreOneToOne(t *testing.T) {
	pairs(func(a, b big.Int) {
		text := big.Text(a)
		if want := value(a).String(); text != want {
			t.Fatalf("Text is %q, not %q", text, want)
		}
		back, e := big.Parse(text)
		if e != api.OK {
			t.Fatalf("Parse(%q): error %v", text, e)
		}
		check(t, "Parse of Text", back, value(a))
		if (text == big.Text(b)) != (big.Cmp(a, b) == 0) {
			t.Fatalf("the texts %q, %q and their numbers are not one to one", text, big.Text(b))
		}
	})
	for _, s := range []string{"0", "1", "-1", "10", "-10", "-" + strings.Repeat("9", 100), "1" + strings.Repeat("0", 100)} {
		a, e := big.Parse(s)
		if got := big.Text(a); e != api.OK || got != s {
			t.Errorf("Text(Parse(%q)) = %q, error %v", s, got, e)
		}
	}
}

func TestParseOfNoNumber(t *testing.T) {
	for _, s := range []string{
		"", "-", "--", "--1", "-0", "-00", "-01", "00", "01", "+", "+1", "+0", "-+1", "+-1", " 1", "1 ", "- 1", " -1",
		"1-", "1-1", "-1-", "-x", "x", "-1x", "0x1", "1.5", "1e2", "\u22121", "-\x00", "-\u0661",
	} {
		if got, e := big.Parse(s); e != api.ErrForm || !nothing(got) {
			t.Errorf("Parse(%q) = %v, %v", s, got, e)
		}
	}
}

// The chapter's examples, and the document's first one.
func TestExamples(t *testing.T) {
	q, r, _ := big.DivMod(big.Of(-7), big.Of(2))
	if big.Text(q) != "-4" || big.Text(r) != "1" {
		t.Errorf("DivMod(-7, 2) = %s, %s", big.Text(q), big.Text(r))
	}
	q, r, _ = big.DivMod(big.Of(-7), big.Of(-2))
	if big.Text(q) != "4" || big.Text(r) != "1" {
		t.Errorf("DivMod(-7, -2) = %s, %s", big.Text(q), big.Text(r))
	}
	floor, _ := big.Floor(big.Of(7), big.Of(-2))
	ceil, _ := big.Ceil(big.Of(7), big.Of(-2))
	if big.Text(floor) != "-4" || big.Text(ceil) != "-3" {
		t.Errorf("Floor, Ceil(7, -2) = %s, %s", big.Text(floor), big.Text(ceil))
	}
	if got, e := big.Parse("-0"); e != api.ErrForm || !nothing(got) {
		t.Errorf("Parse(-0) = %v, %v", got, e)
	}
}

// Neg of 0 says nothing: 0 with a sign is handed in, and never answered.
func TestZeroHasNoSign(t *testing.T) {
	for _, mag := range [][]uint32{nil, {}, {0}, {0, 0}} {
		zero := big.Int{Neg: true, Mag: mag}
		for _, got := range []big.Int{
			big.Norm(zero), big.Neg(zero), big.Neg(big.Of(0)), big.Abs(zero), big.Add(zero, zero), big.Sub(zero, zero),
			big.Mul(zero, big.Of(5)), big.Mul(big.Of(-5), big.Of(0)), big.Sub(big.Of(-5), big.Of(-5)), big.Gcd(zero, zero),
			big.Min(zero, zero), big.Max(zero, big.Of(-1)),
		} {
			check(t, "0", got, new(mathbig.Int))
		}
		if big.Sign(zero) != 0 || big.Cmp(zero, big.Of(0)) != 0 || big.Cmp(big.Of(0), zero) != 0 || big.Text(zero) != "0" {
			t.Errorf("0 with a sign isn't 0: %v", zero)
		}
		if got, ok := big.Small(zero); got != 0 || !ok {
			t.Errorf("Small of 0 with a sign = %d, %v", got, ok)
		}
		if !slices.Equal(big.Add(zero, big.Of(5)).Mag, []uint32{5}) || big.Add(zero, big.Of(5)).Neg {
			t.Errorf("0 with a sign changes a sum")
		}
		if !big.Divides(zero, zero) || big.Divides(zero, big.Of(1)) || !big.Divides(big.Of(1), zero) {
			t.Errorf("Divides hangs on the sign of 0")
		}
	}
}
