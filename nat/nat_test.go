package nat_test

import (
	"math"
	"math/big"
	"math/rand"
	"slices"
	"strings"
	"testing"

	"whetstone/api"
	"whetstone/nat"
)

// The tests up to the chapter's examples are of P1.1: all calls answer as the
// table says, in lists without limbs 0 at their ends.

func TestNorm(t *testing.T) {
	cases := []struct{ in, want []uint32 }{
		{nil, nil}, {[]uint32{}, nil}, {[]uint32{0}, nil}, {[]uint32{0, 0}, nil},
		{[]uint32{5}, []uint32{5}}, {[]uint32{5, 0}, []uint32{5}}, {[]uint32{0, 5, 0, 0}, []uint32{0, 5}},
		{[]uint32{0, 0, 1}, []uint32{0, 0, 1}},
	}
	for _, c := range cases {
		if got := nat.Norm(c.in); !slices.Equal(got, c.want) {
			t.Errorf("Norm(%v) = %v, not %v", c.in, got, c.want)
		}
	}
}

func TestOf(t *testing.T) {
	for _, n := range []uint64{0, 1, 7, 1<<32 - 1, 1 << 32, 1<<32 + 1, 1 << 63, math.MaxUint64 - 1, math.MaxUint64} {
		check(t, "Of", nat.Of(n), new(big.Int).SetUint64(n))
	}
}

func TestCmpAndIsZero(t *testing.T) {
	pairs(t, func(a, b []uint32) {
		if got, want := nat.Cmp(a, b), value(a).Cmp(value(b)); got != want {
			t.Fatalf("Cmp(%v, %v) = %d, not %d", a, b, got, want)
		}
		if got, want := nat.IsZero(a), value(a).Sign() == 0; got != want {
			t.Fatalf("IsZero(%v) = %v", a, got)
		}
	})
}

func TestAddAndMul(t *testing.T) {
	pairs(t, func(a, b []uint32) {
		check(t, "Add", nat.Add(a, b), new(big.Int).Add(value(a), value(b)))
		check(t, "Mul", nat.Mul(a, b), new(big.Int).Mul(value(a), value(b)))
	})
}

func TestSub(t *testing.T) {
	pairs(t, func(a, b []uint32) {
		got, e := nat.Sub(a, b)
		if value(a).Cmp(value(b)) < 0 {
			if e != api.ErrLess || len(got) != 0 {
				t.Fatalf("Sub(%v, %v) = %v, %v", a, b, got, e)
			}
			return
		}
		if e != api.OK {
			t.Fatalf("Sub(%v, %v): error %v", a, b, e)
		}
		check(t, "Sub", got, new(big.Int).Sub(value(a), value(b)))
	})
}

func TestDivMod(t *testing.T) {
	pairs(t, func(a, b []uint32) {
		q, r, e := nat.DivMod(a, b)
		if value(b).Sign() == 0 {
			if e != api.ErrZero || len(q) != 0 || len(r) != 0 {
				t.Fatalf("DivMod(%v, %v) = %v, %v, %v", a, b, q, r, e)
			}
			return
		}
		if e != api.OK {
			t.Fatalf("DivMod(%v, %v): error %v", a, b, e)
		}
		wantQ, wantR := new(big.Int).QuoRem(value(a), value(b), new(big.Int))
		check(t, "the quotient", q, wantQ)
		check(t, "the rest", r, wantR)
	})
}

// Where the guess of a quotient's limb is 1 too great: rare by chance.
func TestDivModWhereAGuessIsTooGreat(t *testing.T) {
	cases := [][2][]uint32{
		{{3, 0, 0x80000000}, {1, 0, 0x20000000}},
		{{0, 0, 0x80000000, 0x7fffffff}, {1, 0, 0x80000000}},
		{{0, 0xfffffffe, 0x80000000}, {0xffffffff, 0x80000000}},
		{{0, 0xfffffffe, 0, 0x80000000}, {0xffffffff, 0, 0x80000000}},
	}
	for _, c := range cases {
		q, r, e := nat.DivMod(c[0], c[1])
		if e != api.OK {
			t.Fatalf("error %v", e)
		}
		wantQ, wantR := new(big.Int).QuoRem(value(c[0]), value(c[1]), new(big.Int))
		check(t, "the quotient", q, wantQ)
		check(t, "the rest", r, wantR)
	}
}

func TestGcd(t *testing.T) {
	pairs(t, func(a, b []uint32) {
		check(t, "Gcd", nat.Gcd(a, b), new(big.Int).GCD(nil, nil, value(a), value(b)))
	})
	for _, a := range samples() {
		check(t, "Gcd with 0 behind", nat.Gcd(a, nil), value(a))
		check(t, "Gcd with 0 ahead", nat.Gcd([]uint32{0}, a), value(a))
	}
	source := rand.New(rand.NewSource(2))
	for range 300 {
		a, b, c := someNumber(source, 6), someNumber(source, 6), someNumber(source, 6)
		want := new(big.Int).Mul(new(big.Int).GCD(nil, nil, value(a), value(b)), value(c))
		check(t, "Gcd of multiples", nat.Gcd(nat.Mul(a, c), nat.Mul(b, c)), want)
	}
}

func TestShift(t *testing.T) {
	if nat.MostShift != 65536 {
		t.Fatalf("MostShift is %d", nat.MostShift)
	}
	for _, a := range samples() {
		for _, n := range []int{0, 1, 5, 31, 32, 33, 63, 64, 65, 1000, nat.MostShift - 1, nat.MostShift} {
			got, e := nat.Shift(a, n)
			if e != api.OK {
				t.Fatalf("Shift(%v, %d): error %v", a, n, e)
			}
			check(t, "Shift", got, new(big.Int).Lsh(value(a), uint(n)))
		}
		for _, n := range []int{-1, -32, math.MinInt, nat.MostShift + 1, math.MaxInt} {
			if got, e := nat.Shift(a, n); e != api.ErrArg || len(got) != 0 {
				t.Fatalf("Shift(%v, %d) = %v, %v", a, n, got, e)
			}
		}
	}
}

func TestBits(t *testing.T) {
	pairs(t, func(a, _ []uint32) {
		if got, want := nat.Bits(a), value(a).BitLen(); got != want {
			t.Fatalf("Bits(%v) = %d, not %d", a, got, want)
		}
	})
}

func TestParse(t *testing.T) {
	for _, s := range []string{
		"0", "1", "9", "10", "999999999", "1000000000", "999999999999999999", "1000000000000000000",
		"4294967295", "4294967296", "18446744073709551615", "18446744073709551616",
		"100000000200000000300000000400000000", strings.Repeat("9", 1000), "1" + strings.Repeat("0", 1000),
	} {
		got, e := nat.Parse(s)
		want, _ := new(big.Int).SetString(s, 10)
		if e != api.OK {
			t.Fatalf("Parse(%q): error %v", s, e)
		}
		check(t, "Parse", got, want)
	}
}

func TestParseOfNoNumber(t *testing.T) {
	for _, s := range []string{
		"", "00", "01", "0000000001", "0" + strings.Repeat("1", 20), "-", "+", "-0", "-1", "+1", " 1", "1 ", " ", "1\n",
		"1_000", "0x10", "0b1", "1e3", "1.0", "1,000", "a", "12a", "a12", "1/", "/1", "1:", ":1", "1\x00", "\x00",
		"1\xff", "\u0661", "1\u0662", "123456789\u0663", strings.Repeat("1", 100) + "x" + strings.Repeat("1", 100),
	} {
		if got, e := nat.Parse(s); e != api.ErrForm || len(got) != 0 {
			t.Errorf("Parse(%q) = %v, %v", s, got, e)
		}
	}
}

// Also rule 7: decimal digits, without noughts ahead.
func TestText(t *testing.T) {
	pairs(t, func(a, _ []uint32) {
		if got, want := nat.Text(a), value(a).String(); got != want {
			t.Fatalf("Text(%v) = %q, not %q", a, got, want)
		}
	})
	for n := range 40 {
		s := "1" + strings.Repeat("0", n)
		a, _ := nat.Parse(s)
		if got := nat.Text(a); got != s {
			t.Errorf("Text of %s = %q", s, got)
		}
	}
}

func TestTextsAndNumbersAreOneToOne(t *testing.T) {
	pairs(t, func(a, _ []uint32) {
		got, e := nat.Parse(nat.Text(a))
		if e != api.OK {
			t.Fatalf("Parse(Text(%v)): error %v", a, e)
		}
		check(t, "Parse of Text", got, value(a))
	})
}

func TestLargeNumbers(t *testing.T) {
	source := rand.New(rand.NewSource(3))
	for range 20 {
		a, b := someNumber(source, 400), append(someNumber(source, 200), 1)
		q, r, _ := nat.DivMod(a, b)
		check(t, "q b + r", nat.Add(nat.Mul(q, b), r), value(a))
		check(t, "the rest", r, new(big.Int).Rem(value(a), value(b)))
		if got := nat.Text(a); got != value(a).String() {
			t.Fatalf("Text of %d limbs is wrong", len(a))
		}
	}
}

// The chapter's examples.
func TestExamples(t *testing.T) {
	if got := nat.Mul([]uint32{0, 1}, []uint32{0, 1}); !slices.Equal(got, []uint32{0, 0, 1}) {
		t.Errorf("Mul: %v", got)
	}
	q, r, e := nat.DivMod([]uint32{0, 0, 1}, []uint32{1, 1})
	if !slices.Equal(q, []uint32{4294967295}) || !slices.Equal(r, []uint32{1}) || e != api.OK {
		t.Errorf("DivMod: %v, %v, %v", q, r, e)
	}
	if got, e := nat.Parse("4294967296"); !slices.Equal(got, []uint32{0, 1}) || e != api.OK {
		t.Errorf("Parse: %v, %v", got, e)
	}
	if got, e := nat.Parse("01"); got != nil || e != api.ErrForm {
		t.Errorf("Parse of 01: %v, %v", got, e)
	}
}

// P1.2: sums and products can be taken in any order, and undone.
func TestLawsOfSumsAndProducts(t *testing.T) {
	laws := func(a, b, c []uint32) {
		if !slices.Equal(nat.Add(a, b), nat.Add(b, a)) || !slices.Equal(nat.Mul(a, b), nat.Mul(b, a)) {
			t.Fatalf("order matters for %v, %v", a, b)
		}
		if !slices.Equal(nat.Add(nat.Add(a, b), c), nat.Add(a, nat.Add(b, c))) {
			t.Fatalf("sums hang on brackets for %v, %v, %v", a, b, c)
		}
		if !slices.Equal(nat.Mul(nat.Mul(a, b), c), nat.Mul(a, nat.Mul(b, c))) {
			t.Fatalf("products hang on brackets for %v, %v, %v", a, b, c)
		}
		if !slices.Equal(nat.Mul(a, nat.Add(b, c)), nat.Add(nat.Mul(a, b), nat.Mul(a, c))) {
			t.Fatalf("a product of a sum is wrong for %v, %v, %v", a, b, c)
		}
		if back, e := nat.Sub(nat.Add(a, b), b); e != api.OK || !same(back, a) {
			t.Fatalf("Sub doesn't undo Add for %v, %v", a, b)
		}
		if nat.IsZero(b) {
			return
		}
		if q, r, e := nat.DivMod(nat.Mul(a, b), b); e != api.OK || !same(q, a) || len(r) != 0 {
			t.Fatalf("DivMod doesn't undo Mul for %v, %v", a, b)
		}
		if q, r, _ := nat.DivMod(a, b); !same(nat.Add(nat.Mul(q, b), r), a) || nat.Cmp(r, b) >= 0 {
			t.Fatalf("DivMod isn't undone for %v, %v", a, b)
		}
	}
	for _, a := range samples() {
		for _, b := range samples() {
			for _, c := range samples() {
				laws(a, b, c)
			}
		}
	}
	source := rand.New(rand.NewSource(4))
	for range 5000 {
		laws(someNumber(source, 10), someNumber(source, 10), someNumber(source, 10))
	}
}
