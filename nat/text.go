package nat

import (
	"strconv"

	"whetstone/api"
)

// Digits are read and written in groups: as many as surely fit one limb.
const (
	groupDigits  = 9
	groupBase    = 1000000000
	groupNoughts = "000000000"
)

// Parse: the number that a text's digits write.
func Parse(s string) ([]uint32, api.Errno) {
	if !isNumber(s) {
		return nil, api.ErrForm
	}
	var out []uint32
	first := len(s) % groupDigits
	out = timesAndMore(out, groupBase, groupOf(s[:first]))
	for i := first; i < len(s); i += groupDigits {
		out = timesAndMore(out, groupBase, groupOf(s[i:i+groupDigits]))
	}
	return out, api.OK
}

func isNumber(s string) bool {
	if s == "" || s[0] == '0' && len(s) > 1 {
		return false
	}
	for i := range len(s) {
		if s[i] < '0' || s[i] > '9' {
			return false
		}
	}
	return true
}

func groupOf(digits string) uint32 {
	n := uint32(0)
	for i := range len(digits) {
		n = n*10 + uint32(digits[i]-'0')
	}
	return n
}

// timesAndMore is a times a limb, and one more limb added. It works in place:
// a is the caller's own.
func timesAndMore(a []uint32, times, more uint32) []uint32 {
	carry := uint64(more)
	for i, limb := range a {
		wide := uint64(limb)*uint64(times) + carry
		a[i] = uint32(wide)
		carry = wide >> limbBits
	}
	if carry != 0 {
		a = append(a, uint32(carry))
	}
	return a
}

// Text: a number's digits.
func Text(a []uint32) string {
	rest := Norm(a)
	if len(rest) == 0 {
		return "0"
	}
	var groups []uint32
	for len(rest) > 0 {
		groups = append(groups, divideBy(rest, groupBase))
		rest = trim(rest)
	}
	var text []byte
	for i, group := range fromTop(groups) {
		digits := strconv.FormatUint(uint64(group), 10)
		if i < len(groups)-1 {
			text = append(text, groupNoughts[len(digits):]...)
		}
		text = append(text, digits...)
	}
	return string(text)
}
