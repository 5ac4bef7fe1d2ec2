// Package big is layer 2: see shared/doc/02-big.md.
package big

import (
	"cmp"
	"math"

	"whetstone/api"
	"whetstone/nat"
)

// Int is a number of any size: a sign, and limbs (layer 1).
type Int struct {
	Neg bool
	Mag []uint32
}

// signed is the one form of limbs that layer 1 has answered, with a sign.
func signed(neg bool, mag []uint32) Int {
	return Int{Neg: neg && len(mag) > 0, Mag: mag}
}

// Norm: the same number in its one form.
func Norm(a Int) Int { return signed(a.Neg, nat.Norm(a.Mag)) }

// Of: a small number.
func Of(n int64) Int {
	if n < 0 {
		// The sign is turned as uint64, since int64 has no 2^63.
		return signed(true, nat.Of(-uint64(n)))
	}
	return signed(false, nat.Of(uint64(n)))
}

// Small: a number of 64 bits; false: it is none.
func Small(a Int) (int64, bool) {
	if nat.Bits(a.Mag) > 64 {
		return 0, false
	}
	n := uint64(0)
	for i, limb := range nat.Norm(a.Mag) {
		n |= uint64(limb) << (32 * i)
	}
	if a.Neg && n <= 1<<63 {
		return int64(-n), true
	}
	if !a.Neg && n <= math.MaxInt64 {
		return int64(n), true
	}
	return 0, false
}

// Sign: -1, 0, 1.
func Sign(a Int) int {
	switch {
	case nat.IsZero(a.Mag):
		return 0
	case a.Neg:
		return -1
	}
	return 1
}

// Cmp: -1, 0, 1: the first is less, the same, greater.
func Cmp(a, b Int) int {
	if Sign(a) != Sign(b) {
		return cmp.Compare(Sign(a), Sign(b))
	}
	if Sign(a) < 0 {
		return nat.Cmp(b.Mag, a.Mag)
	}
	return nat.Cmp(a.Mag, b.Mag)
}

// Neg, Abs: with the other sign; without one.
func Neg(a Int) Int { return signed(!a.Neg, nat.Norm(a.Mag)) }

func Abs(a Int) Int { return signed(false, nat.Norm(a.Mag)) }

// Add: the sum.
func Add(a, b Int) Int {
	if a.Neg == b.Neg {
		return signed(a.Neg, nat.Add(a.Mag, b.Mag))
	}
	if nat.Cmp(a.Mag, b.Mag) < 0 {
		a, b = b, a
	}
	mag, _ := nat.Sub(a.Mag, b.Mag)
	return signed(a.Neg, mag)
}

// Sub: the first less the second.
func Sub(a, b Int) Int {
	b.Neg = !b.Neg
	return Add(a, b)
}

// Mul: the product.
func Mul(a, b Int) Int { return signed(a.Neg != b.Neg, nat.Mul(a.Mag, b.Mag)) }

// Gcd: the greatest number that divides both, 0 or more.
func Gcd(a, b Int) Int { return signed(false, nat.Gcd(a.Mag, b.Mag)) }

// Min, Max: the lesser, the greater one.
func Min(a, b Int) Int {
	if Cmp(a, b) <= 0 {
		return Norm(a)
	}
	return Norm(b)
}

func Max(a, b Int) Int {
	if Cmp(a, b) >= 0 {
		return Norm(a)
	}
	return Norm(b)
}

// Parse: the number that a text writes.
func Parse(s string) (Int, api.Errno) {
	neg := len(s) > 0 && s[0] == '-'
	if neg {
		s = s[1:]
	}
	mag, e := nat.Parse(s)
	if e != api.OK {
		return Int{}, e
	}
	if neg && nat.IsZero(mag) {
		return Int{}, api.ErrForm
	}
	return signed(neg, mag), api.OK
}

// Text: a number's text.
func Text(a Int) string {
	if Sign(a) < 0 {
		return "-" + nat.Text(a.Mag)
	}
	return nat.Text(a.Mag)
}
