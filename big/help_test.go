package big_test

import (
	"math"
	mathbig "math/big"
	"math/rand"
	"testing"

	"whetstone/big"
)

// value is what a number means by the chapter's words, told by another library.
func value(a big.Int) *mathbig.Int {
	sum := new(mathbig.Int)
	for i, limb := range a.Mag {
		part := new(mathbig.Int).SetUint64(uint64(limb))
		sum.Add(sum, part.Lsh(part, uint(32*i)))
	}
	if a.Neg {
		sum.Neg(sum)
	}
	return sum
}

// check wants a number in its one form.
func check(t *testing.T, what string, got big.Int, want *mathbig.Int) {
	t.Helper()
	if value(got).Cmp(want) != 0 {
		t.Fatalf("%s is %v, not %v", what, value(got), want)
	}
	n := len(got.Mag)
	if n > 0 && got.Mag[n-1] == 0 {
		t.Fatalf("%s has a limb 0 at its end: %v", what, got)
	}
	if n == 0 && got.Neg {
		t.Fatalf("%s is 0 with a sign", what)
	}
}

// nothing: an error's other results are zero values.
func nothing(a big.Int) bool { return !a.Neg && len(a.Mag) == 0 }

func samples() []big.Int {
	const top = 1<<32 - 1
	var out []big.Int
	for _, mag := range [][]uint32{
		nil, {}, {0}, {0, 0}, {1}, {1, 0}, {2}, {3}, {6, 0, 0}, {7}, {12}, {0x80000000}, {top},
		{0, 1}, {1, 1}, {top, top}, {0, 0x80000000}, {1, 0x80000000}, {top, 0x7fffffff}, {0, 0x80000000, 0},
		{0, 0, 1}, {1, 0, 1}, {top, top, top, 0}, {1, 0, 0x80000000}, {0, 0, 0x80000000, 0x7fffffff},
	} {
		out = append(out, big.Int{Mag: mag}, big.Int{Neg: true, Mag: mag})
	}
	return out
}

func smallSamples() []int64 {
	out := []int64{
		math.MinInt64, math.MinInt64 + 1, -1 << 62, -1 << 32, -1<<32 + 1, -1 << 31,
		1 << 31, 1<<32 - 1, 1 << 32, 1 << 62, math.MaxInt64 - 1, math.MaxInt64,
	}
	for n := int64(-13); n <= 13; n++ {
		out = append(out, n)
	}
	return out
}

func someNumber(source *rand.Rand, most int) big.Int {
	edges := []uint32{0, 0, 1, 2, 0x7fffffff, 0x80000000, 1<<32 - 2, 1<<32 - 1}
	a := big.Int{Neg: source.Intn(2) == 0, Mag: make([]uint32, source.Intn(most+1))}
	for i := range a.Mag {
		a.Mag[i] = source.Uint32() >> source.Intn(32)
		if source.Intn(2) == 0 {
			a.Mag[i] = edges[source.Intn(len(edges))]
		}
	}
	return a
}

// pairs are all pairs of samples, of small numbers, and others of a fixed source.
func pairs(try func(a, b big.Int)) {
	for _, a := range samples() {
		for _, b := range samples() {
			try(a, b)
		}
	}
	for _, a := range smallSamples() {
		for _, b := range smallSamples() {
			try(big.Of(a), big.Of(b))
		}
	}
	source := rand.New(rand.NewSource(1))
	for range 10000 {
		try(someNumber(source, 8), someNumber(source, 5))
	}
}
