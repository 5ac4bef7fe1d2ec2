package nat

import (
	"math/bits"

	"whetstone/api"
)

// DivMod: the quotient, rounded down, and the rest.
func DivMod(a, b []uint32) (q, r []uint32, e api.Errno) {
	a, b = trim(a), trim(b)
	switch {
	case len(b) == 0:
		return nil, nil, api.ErrZero
	case Cmp(a, b) < 0:
		return nil, Norm(a), api.OK
	case len(b) == 1:
		q = Norm(a)
		rest := divideBy(q, b[0])
		return trim(q), Of(uint64(rest)), api.OK
	}
	q, r = longDivide(a, b)
	return q, r, api.OK
}

// divideBy makes a its quotient by one limb, in place, and answers the rest.
func divideBy(a []uint32, divisor uint32) uint32 {
	rest := uint64(0)
	for i, limb := range fromTop(a) {
		wide := rest<<limbBits | uint64(limb)
		a[i] = uint32(wide / uint64(divisor))
		rest = wide % uint64(divisor)
	}
	return uint32(rest)
}

// longDivide divides by two limbs or more, limb by limb as by hand. Both
// numbers are shifted first till the divisor's highest bit is set: only then
// is a guess by the highest limbs so near that one step back mends it.
func longDivide(a, b []uint32) (q, r []uint32) {
	shift := bits.LeadingZeros32(b[len(b)-1])
	divisor := left(b, shift)[:len(b)]
	rest := left(a, shift)
	q = make([]uint32, len(a)-len(b)+1)
	for i := range fromTop(q) {
		part := rest[i : i+len(b)+1]
		limb := guess(part, divisor)
		if takeAway(part, divisor, limb) {
			putBack(part, divisor)
			limb--
		}
		q[i] = limb
	}
	return trim(q), trim(right(rest[:len(b)], shift))
}

// guess tells a quotient's limb by the highest limbs: it is right, or 1 too
// great. The part has one limb more than the divisor.
func guess(part, divisor []uint32) uint32 {
	n := len(divisor)
	top, next := uint64(divisor[n-1]), uint64(divisor[n-2])
	high := uint64(part[n])<<limbBits | uint64(part[n-1])
	limb, rest := high/top, high%top
	for rest <= maxLimb && (limb > maxLimb || limb*next > rest<<limbBits|uint64(part[n-2])) {
		limb--
		rest += top
	}
	return uint32(limb)
}

// takeAway takes the divisor so many times from the part, in place; true: that
// went below 0.
func takeAway(part, divisor []uint32, times uint32) bool {
	carry, borrow := uint64(0), uint32(0)
	for i, limb := range divisor {
		wide := uint64(limb)*uint64(times) + carry
		part[i], borrow = bits.Sub32(part[i], uint32(wide), borrow)
		carry = wide >> limbBits
	}
	n := len(divisor)
	part[n], borrow = bits.Sub32(part[n], uint32(carry), borrow)
	return borrow != 0
}

// putBack adds the divisor once to a part that went below 0. The carry beyond
// the part's end makes up for the borrow there.
func putBack(part, divisor []uint32) {
	carry := uint32(0)
	for i, limb := range divisor {
		part[i], carry = bits.Add32(part[i], limb, carry)
	}
	part[len(divisor)] += carry
}

// Gcd: the greatest number that divides both; of 0 and 0: 0.
func Gcd(a, b []uint32) []uint32 {
	for !IsZero(b) {
		_, rest, _ := DivMod(a, b)
		a, b = b, rest
	}
	return Norm(a)
}
