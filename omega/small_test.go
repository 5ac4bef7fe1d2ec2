package omega

import (
	"math/rand"
	"slices"
	"testing"

	"whetstone/big"
)

func TestUnion(t *testing.T) {
	r := rand.New(rand.NewSource(5))
	some := func() []int {
		var l []int
		for n := range 8 {
			if r.Intn(3) == 0 {
				l = append(l, n)
			}
		}
		return l
	}
	for range 1000 {
		a, b := some(), some()
		want := append(slices.Clone(a), b...)
		slices.Sort(want)
		want = slices.Compact(want)
		keptA, keptB := slices.Clone(a), slices.Clone(b)
		if got := union(a, b); !slices.Equal(got, want) {
			t.Fatalf("union of %v, %v = %v", a, b, got)
		}
		if !slices.Equal(a, keptA) || !slices.Equal(b, keptB) {
			t.Fatalf("union changes %v, %v", keptA, keptB)
		}
	}
}

func TestOutward(t *testing.T) {
	for low := int64(-5); low <= 5; low++ {
		for high := low - 2; high <= low+9; high++ {
			var got []int64
			for n := range outward(big.Of(low), big.Of(high)) {
				small, _ := big.Small(n)
				got = append(got, small)
			}
			far := func(n int64) int64 { return max(2*n-low-high, low+high-2*n) }
			if !slices.IsSortedFunc(got, func(a, b int64) int { return int(far(a) - far(b)) }) {
				t.Fatalf("from %d to %d: %v doesn't go from the middle on", low, high, got)
			}
			slices.Sort(got)
			var want []int64
			for n := low; n <= high; n++ {
				want = append(want, n)
			}
			if !slices.Equal(got, want) {
				t.Fatalf("from %d to %d: %v", low, high, got)
			}
			left := 0
			for range outward(big.Of(low), big.Of(high)) {
				if left++; left == 2 {
					break
				}
			}
			if left != min(2, len(want)) {
				t.Fatalf("from %d to %d, left behind %d", low, high, left)
			}
		}
	}
}

func TestNearest(t *testing.T) {
	for a := int64(-30); a <= 30; a++ {
		for b := int64(-7); b <= 7; b++ {
			if b == 0 {
				continue
			}
			q, _ := big.Small(nearest(big.Of(a), big.Of(b)))
			if rest := a - q*b; 2*max(rest, -rest) > max(b, -b) {
				t.Fatalf("%d divided by %d is near %d", a, b, q)
			}
		}
	}
}
