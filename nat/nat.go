// Package nat is layer 1: see shared/doc/01-nat.md.
package nat

import (
	"cmp"
	"iter"
	"math/bits"

	"whetstone/api"
)

// MostShift is how far a number is shifted at most.
const MostShift = 1 << 16

const (
	limbBits = 32
	maxLimb  = 1<<limbBits - 1
)

// fromTop goes through the limbs with their places, from the highest on.
func fromTop(a []uint32) iter.Seq2[int, uint32] {
	return func(yield func(int, uint32) bool) {
		for i := len(a) - 1; i >= 0; i-- {
			if !yield(i, a[i]) {
				return
			}
		}
	}
}

// trim cuts off the limbs 0 at the end. What it answers is a piece of a, so
// that it is for reading arguments and for ending what a call itself has made.
func trim(a []uint32) []uint32 {
	for i, limb := range fromTop(a) {
		if limb != 0 {
			return a[:i+1]
		}
	}
	return nil
}

// limbAt lets a shorter number be read as far as a longer one goes.
func limbAt(a []uint32, i int) uint32 {
	if i < len(a) {
		return a[i]
	}
	return 0
}

// Norm: the same number, without limbs 0 at its end.
func Norm(a []uint32) []uint32 {
	a = trim(a)
	if len(a) == 0 {
		return nil
	}
	out := make([]uint32, len(a))
	copy(out, a)
	return out
}

// Of: a small number.
func Of(n uint64) []uint32 {
	return trim([]uint32{uint32(n), uint32(n >> limbBits)})
}

// Cmp: -1, 0, 1: the first is less, the same, greater.
func Cmp(a, b []uint32) int {
	a, b = trim(a), trim(b)
	if len(a) != len(b) {
		return cmp.Compare(len(a), len(b))
	}
	for i, limb := range fromTop(a) {
		if limb != b[i] {
			return cmp.Compare(limb, b[i])
		}
	}
	return 0
}

// IsZero: is it 0?
func IsZero(a []uint32) bool { return len(trim(a)) == 0 }

// Add: the sum.
func Add(a, b []uint32) []uint32 {
	n := max(len(a), len(b))
	sum := make([]uint32, n+1)
	carry := uint32(0)
	for i := range n {
		sum[i], carry = bits.Add32(limbAt(a, i), limbAt(b, i), carry)
	}
	sum[n] = carry
	return trim(sum)
}

// Sub: the first less the second.
func Sub(a, b []uint32) ([]uint32, api.Errno) {
	if Cmp(a, b) < 0 {
		return nil, api.ErrLess
	}
	difference := make([]uint32, len(a))
	borrow := uint32(0)
	for i, limb := range a {
		difference[i], borrow = bits.Sub32(limb, limbAt(b, i), borrow)
	}
	return trim(difference), api.OK
}

// Mul: the product.
func Mul(a, b []uint32) []uint32 {
	a, b = trim(a), trim(b)
	product := make([]uint32, len(a)+len(b))
	for i, x := range a {
		carry := uint64(0)
		for j, y := range b {
			wide := uint64(x)*uint64(y) + uint64(product[i+j]) + carry
			product[i+j] = uint32(wide)
			carry = wide >> limbBits
		}
		product[i+len(b)] = uint32(carry)
	}
	return trim(product)
}

// Shift: the number times 2 to the n.
func Shift(a []uint32, n int) ([]uint32, api.Errno) {
	if n < 0 || n > MostShift {
		return nil, api.ErrArg
	}
	return trim(left(trim(a), n)), api.OK
}

// left is a times 2 to the n, always with one limb for what is shifted out of
// the highest one, be it 0: division counts on that room.
func left(a []uint32, n int) []uint32 {
	limbs, rest := n/limbBits, n%limbBits
	out := make([]uint32, len(a)+limbs+1)
	for i, limb := range fromTop(a) {
		wide := uint64(limb) << rest
		out[i+limbs+1] |= uint32(wide >> limbBits)
		out[i+limbs] = uint32(wide)
	}
	return out
}

// right is a divided by 2 to the n, rounded down; n is less than a limb's bits.
func right(a []uint32, n int) []uint32 {
	out := make([]uint32, len(a))
	above := uint32(0)
	for i, limb := range fromTop(a) {
		out[i] = limb>>n | above<<(limbBits-n)
		above = limb
	}
	return out
}

// Bits: how many bits it has; of 0: 0.
func Bits(a []uint32) int {
	for i, limb := range fromTop(a) {
		if limb != 0 {
			return i*limbBits + bits.Len32(limb)
		}
	}
	return 0
}
