package frame

import (
	"bytes"

	"whetstone/api"
)

// mostDigits is how many digits a length has at most.
const mostDigits = 10

// state is how far a header has come.
type state int

const (
	open  state = iota
	whole       // its last byte has come
	none        // a byte has come by which it is none
)

// header is a message's header, as far as it has come.
type header struct {
	size   int    // bytes so far
	line   []byte // those of the line that hasn't ended
	told   bool   // there was a Content-Length
	length int64
}

func (h *header) add(c byte) state {
	h.size++
	if h.size > api.MaxHeader {
		return none
	}
	if c != '\n' {
		h.line = append(h.line, c)
		return open
	}
	line, ended := bytes.CutSuffix(h.line, []byte("\r"))
	h.line = nil
	if !ended {
		return none
	}
	return h.endLine(line)
}

func (h *header) endLine(line []byte) state {
	if len(line) == 0 {
		if h.told {
			return whole
		}
		return none
	}
	name, value, parted := bytes.Cut(line, []byte(":"))
	if !parted || len(name) == 0 {
		return none
	}
	if !isLength(name) {
		return open
	}
	n, ok := lengthOf(value)
	if !ok || h.told {
		return none
	}
	h.told, h.length = true, n
	return open
}

// isLength: is this the name that counts? Letters beyond a to z are never the
// same as one of its own, so folding all letters is folding these.
func isLength(name []byte) bool {
	return bytes.EqualFold(name, []byte(lengthName))
}

// lengthOf: the number that a value is. It may be beyond 32 bits.
func lengthOf(value []byte) (int64, bool) {
	digits := bytes.Trim(value, " \t")
	if len(digits) == 0 || len(digits) > mostDigits {
		return 0, false
	}
	var n int64
	for _, c := range digits {
		if c < '0' || c > '9' {
			return 0, false
		}
		n = 10*n + int64(c-'0')
	}
	return n, true
}
