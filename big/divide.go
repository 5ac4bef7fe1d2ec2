package big

import (
	"whetstone/api"
	"whetstone/nat"
)

// DivMod: the quotient and the rest, which is 0 or more, and less than the divisor without its sign.
func DivMod(a, b Int) (q, r Int, e api.Errno) {
	quotient, rest, e := nat.DivMod(a.Mag, b.Mag)
	if e != api.OK {
		return Int{}, Int{}, e
	}
	if Sign(a) < 0 && len(rest) > 0 {
		// Layer 1 leaves the rest below 0 here: one more of the divisor lifts it.
		quotient = nat.Add(quotient, nat.Of(1))
		rest, _ = nat.Sub(b.Mag, rest)
	}
	return signed(a.Neg != b.Neg, quotient), signed(false, rest), api.OK
}

// Floor: the quotient, rounded down.
func Floor(a, b Int) (Int, api.Errno) {
	q, r, e := DivMod(a, b)
	if e != api.OK {
		return Int{}, e
	}
	// A rest of 0 or more makes the quotient the lower one only of a divisor above 0.
	if Sign(b) < 0 && Sign(r) > 0 {
		q = Sub(q, Of(1))
	}
	return q, api.OK
}

// Ceil: the quotient, rounded up.
func Ceil(a, b Int) (Int, api.Errno) {
	q, r, e := DivMod(a, b)
	if e != api.OK {
		return Int{}, e
	}
	if Sign(b) > 0 && Sign(r) > 0 {
		q = Add(q, Of(1))
	}
	return q, api.OK
}

// Divides: does the first divide the second?
func Divides(a, b Int) bool {
	if Sign(a) == 0 {
		return Sign(b) == 0
	}
	_, rest, _ := nat.DivMod(b.Mag, a.Mag)
	return len(rest) == 0
}
