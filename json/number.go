package json

import "strings"

// isOne: is there, at a place, one of these bytes?
func isOne(b []byte, at int, of string) bool {
	return at < len(b) && strings.IndexByte(of, b[at]) >= 0
}

// digits: where the digits end that begin at a place; false if there is none.
func digits(b []byte, at int) (int, bool) {
	from := at
	for isOne(b, at, "0123456789") {
		at++
	}
	return at, at > from
}

// numberEnd: where the number ends that begins at a place; with false the
// place where what must stand doesn't.
func numberEnd(b []byte, at int) (int, bool) {
	if isOne(b, at, "-") {
		at++
	}
	whole := true
	if isOne(b, at, "0") {
		at++ // no digit goes on from a nought ahead
	} else {
		at, whole = digits(b, at)
	}
	if whole && isOne(b, at, ".") {
		at, whole = digits(b, at+1)
	}
	if whole && isOne(b, at, "eE") {
		at++
		if isOne(b, at, "+-") {
			at++
		}
		at, whole = digits(b, at)
	}
	return at, whole
}

func isNumber(s string) bool {
	end, ok := numberEnd([]byte(s), 0)
	return ok && end == len(s)
}
