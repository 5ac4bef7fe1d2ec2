package nat_test

import (
	"math/big"
	"math/rand"
	"slices"
	"testing"

	"whetstone/nat"
)

// value is what a list means by the chapter's words, told by another library.
func value(a []uint32) *big.Int {
	sum := new(big.Int)
	for i, limb := range a {
		part := new(big.Int).SetUint64(uint64(limb))
		sum.Add(sum, part.Lsh(part, uint(32*i)))
	}
	return sum
}

// check wants a number, and no limb 0 at the end of its list.
func check(t *testing.T, what string, got []uint32, want *big.Int) {
	t.Helper()
	if value(got).Cmp(want) != 0 {
		t.Fatalf("%s is %v, not %v", what, value(got), want)
	}
	if n := len(got); n > 0 && got[n-1] == 0 {
		t.Fatalf("%s has a limb 0 at its end: %v", what, got)
	}
}

func samples() [][]uint32 {
	const top = 1<<32 - 1
	return [][]uint32{
		nil, {}, {0}, {0, 0, 0},
		{1}, {1, 0, 0}, {2}, {3}, {9}, {10}, {12}, {18}, {0x80000000}, {top}, {999999999}, {1000000000},
		{0, 1}, {1, 1}, {0, 1, 0}, {top, top}, {0, 0x80000000}, {top, 0x7fffffff}, {0xa7640000, 0xde0b6b3},
		{0, 0, 1}, {1, 0, 1}, {top, top, top}, {0, top, 0}, {0, 0, 0x80000000, 0}, {1, 0, 0x80000000},
		{0, 0, 0x80000000, 0x7fffffff}, {0, 0xfffffffe, 0x80000000}, {top, 0, 0x80000000}, {0, 0, top, 0x7fffffff},
		{3, 0, 0, 0, 1}, {0, 0, 0, 0, 0, 7},
	}
}

// someNumber has limbs of every kind: those at the edges more often than
// chance has them, since divisions go wrong there.
func someNumber(source *rand.Rand, most int) []uint32 {
	edges := []uint32{0, 0, 1, 2, 0x7fffffff, 0x80000000, 0x80000001, 1<<32 - 2, 1<<32 - 1}
	a := make([]uint32, source.Intn(most+1))
	for i := range a {
		a[i] = source.Uint32() >> source.Intn(32)
		if source.Intn(2) == 0 {
			a[i] = edges[source.Intn(len(edges))]
		}
	}
	return a
}

// pairs are all pairs of samples, and others of a fixed source.
func pairs(t *testing.T, try func(a, b []uint32)) {
	t.Helper()
	for _, a := range samples() {
		for _, b := range samples() {
			try(a, b)
		}
	}
	source := rand.New(rand.NewSource(1))
	for range 20000 {
		try(someNumber(source, 12), someNumber(source, 8))
	}
}

func same(a, b []uint32) bool { return slices.Equal(nat.Norm(a), nat.Norm(b)) }
