package text

import (
	"slices"

	"whetstone/api"
	"whetstone/utf"
)

// body is a text, and where its lines begin. Its lists are never written to:
// a change makes others, so that one that goes wrong has nothing to take back.
type body struct {
	bytes []byte
	lines []int
}

func bodyOf(b []byte) body {
	return body{bytes: b, lines: utf.Lines(b)}
}

func (b body) offset(p api.Pos) int {
	return utf.Offset(b.bytes, b.lines, p)
}

// edit: a change of this text, by bytes.
func (b body) edit(c Change) Edit {
	if !c.Ranged {
		return Edit{To: len(b.bytes), Size: len(c.Text)}
	}
	from := b.offset(c.From)
	return Edit{From: from, To: max(from, b.offset(c.To)), Size: len(c.Text)}
}

// changed: the text behind a change, and the change by bytes.
func (b body) changed(c Change) (body, Edit, api.Errno) {
	put := []byte(c.Text)
	if _, e := utf.Valid(put); e != api.OK {
		return body{}, Edit{}, e
	}
	done := b.edit(c)
	if len(b.bytes)+done.growth() > api.MaxText {
		return body{}, Edit{}, api.ErrBig
	}
	// Positions stand between letters, so that what is left is UTF-8 as well.
	return bodyOf(slices.Concat(b.bytes[:done.From], put, b.bytes[done.To:])), done, api.OK
}
