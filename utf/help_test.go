package utf_test

import (
	"math/rand"
	"slices"

	"whetstone/api"
)

// spelled is a letter's bytes, by the bits that the definition of UTF-8 gives
// to each count of bytes.
func spelled(r int) []byte {
	last := func(shift int) byte { return byte(0x80 | r>>shift&0x3F) }
	switch {
	case r < 0x80:
		return []byte{byte(r)}
	case r < 0x800:
		return []byte{byte(0xC0 | r>>6), last(0)}
	case r < 0x10000:
		return []byte{byte(0xE0 | r>>12), last(6), last(0)}
	}
	return []byte{byte(0xF0 | r>>18), last(12), last(6), last(0)}
}

func isLetter(r int) bool {
	return r >= 0 && r <= 0x10FFFF && (r < 0xD800 || r > 0xDFFF)
}

// letter is what a text has at a byte: the bits that a lead byte and so many
// more would mean must be spelled by these very bytes.
type letter struct {
	at, bytes, units int
	r                rune
}

func letterAt(b []byte, at int) letter {
	for n := 1; n <= 4 && at+n <= len(b); n++ {
		r := int(b[at])
		if n > 1 {
			r &= 0x7F >> n
		}
		for _, c := range b[at+1 : at+n] {
			r = r<<6 | int(c&0x3F)
		}
		if isLetter(r) && slices.Equal(spelled(r), b[at:at+n]) {
			units := 1
			if r >= 0x10000 {
				units = 2
			}
			return letter{at, n, units, rune(r)}
		}
	}
	return letter{at, 1, 1, -1}
}

func lettersBetween(b []byte, from, to int) []letter {
	var all []letter
	for from < to {
		l := letterAt(b, from)
		all = append(all, l)
		from += l.bytes
	}
	return all
}

// line is a line's letters, and the byte where they end.
func line(b []byte, begin int) ([]letter, int) {
	begin = min(max(begin, 0), len(b))
	end := begin
	for end < len(b) && b[end] != 10 && b[end] != 13 {
		end++
	}
	return lettersBetween(b, begin, end), end
}

// offset is Offset, condition by condition as the chapter lists them.
func offset(b []byte, lines []int, p api.Pos) int {
	switch {
	case p.Line < 0:
		return 0
	case p.Line >= len(lines):
		return len(b)
	}
	unit := max(p.Unit, 0)
	letters, end := line(b, lines[p.Line])
	ahead := 0
	for _, l := range letters {
		half := l.units == 2 && ahead+1 == unit
		if ahead >= unit || half {
			return l.at
		}
		ahead += l.units
	}
	return end
}

// place is Place, likewise.
func place(b []byte, lines []int, at int) api.Pos {
	if len(lines) == 0 {
		return api.Pos{}
	}
	at = min(max(at, 0), len(b))
	var p api.Pos
	for i, begin := range lines {
		if begin <= at {
			p.Line = i
		}
	}
	letters, end := line(b, lines[p.Line])
	for _, l := range letters {
		if l.at+l.bytes <= min(at, end) {
			p.Unit += l.units
		}
	}
	return p
}

// wellFormed are texts in UTF-8: letters at the edges of each count of bytes
// and of units, and ends of lines of each kind.
func wellFormed() []string {
	return []string{
		"", "a", "ab", "a\u20acb", "\x00\x7f\u0080\u07ff\u0800\ud7ff\ue000\ufffd\uffff\U00010000\U0010ffff",
		"\n", "\r", "\r\n", "\n\r", "\r\r\n", "\r\n\n", "a\r\nb\rc", "a\n", "a\nb", "\na", "a\r", "a\n\nb\r\r\nc\n",
		"\U0001f600\U0001f600", "x\U0001f600\ny\U0001f600z\r\n\U0001f600", "\u20ac\n\u20ac\U0001f600\u20ac\r", "\u0085\u2028\u2029\v\f", "\ufeffa",
	}
}

// broken are texts with bytes with which no letter begins.
func broken() []string {
	return []string{
		"\x80", "\xbf", "\xc0\x80", "\xc1\xbf", "\xc2", "\xc2a", "\xc2\xc2\x80", "\xe0\x80\x80", "\xe0\x9f\xbf", "\xe0\xa0", "\xe2\x82", "\xe2\x82a", "\xe2\x82\n\xac",
		"\xed\xa0\x80", "\xed\xbf\xbf", "\xed\xa0\xbd\xed\xb8\x80", "\xf0\x80\x80\x80", "\xf0\x8f\xbf\xbf", "\xf0\x90\x80", "\xf0\x9f\x98\r\x80", "\xf4\x90\x80\x80",
		"\xf5\x80\x80\x80", "\xf8\x88\x80\x80\x80", "\xfe", "\xff", "a\xffb", "\u20ac\x82\u20ac", "ok\n\xff\U0001f600\xff\r\n\x80", "a\xe2", "\xf0\x9f\x98", "\xffa\u20ac\U0001f600",
	}
}

// someText is made of parts of letters and of whole ones.
func someText(source *rand.Rand, most int) []byte {
	parts := []string{"a", "b", "\n", "\r", "\r\n", "\u00e9", "\u20ac", "\U0001f600", "\xe2", "\x82", "\xf0", "\x9f", "\xed", "\xa0", "\xff"}
	var b []byte
	for range source.Intn(most + 1) {
		b = append(b, parts[source.Intn(len(parts))]...)
	}
	return b
}

// texts are all the samples, and others of a fixed source.
func texts() [][]byte {
	var all [][]byte
	for _, s := range append(wellFormed(), broken()...) {
		all = append(all, []byte(s))
	}
	source := rand.New(rand.NewSource(3))
	for range 400 {
		all = append(all, someText(source, 12))
	}
	return append(all, nil)
}
