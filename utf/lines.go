package utf

import (
	"bytes"

	"whetstone/api"
)

const lineEnds = "\n\r"

// Lines: where the lines of a text begin.
func Lines(b []byte) []int {
	lines := []int{0}
	for i, c := range b {
		paired := c == '\r' && i+1 < len(b) && b[i+1] == '\n'
		if c == '\n' || c == '\r' && !paired {
			lines = append(lines, i+1)
		}
	}
	return lines
}

// within moves a place outside the text to its nearer end.
func within(b []byte, at int) int {
	return min(max(at, 0), len(b))
}

// lettersOf: the letters of the line that begins at a place, and that place
// as it counts.
func lettersOf(b []byte, begin int) (line []byte, from int) {
	from = within(b, begin)
	line = b[from:]
	if end := bytes.IndexAny(line, lineEnds); end >= 0 {
		line = line[:end]
	}
	return line, from
}

// Offset: the byte of a position; one that isn't there counts as the nearest ahead of it.
func Offset(b []byte, lines []int, p api.Pos) int {
	if p.Line < 0 {
		return 0
	}
	if p.Line >= len(lines) {
		return len(b)
	}
	line, from := lettersOf(b, lines[p.Line])
	units := 0
	for at, r := range letters(line) {
		units += width(r)
		if units > p.Unit {
			return from + at
		}
	}
	return from + len(line)
}

// lineOf: the last line that begins at a byte or ahead of it. Lines that
// aren't in order are no less looked at, so it isn't searched by halves.
func lineOf(lines []int, at int) int {
	for i := len(lines) - 1; i > 0; i-- {
		if lines[i] <= at {
			return i
		}
	}
	return 0
}

// Place: the position of a byte; one within a letter, or within a line's end, counts as the one where that begins.
func Place(b []byte, lines []int, at int) api.Pos {
	if len(lines) == 0 {
		return api.Pos{}
	}
	at = within(b, at)
	p := api.Pos{Line: lineOf(lines, at)}
	line, from := lettersOf(b, lines[p.Line])
	for i, r := range letters(line) {
		if from+i+length(r) > at {
			break
		}
		p.Unit += width(r)
	}
	return p
}
