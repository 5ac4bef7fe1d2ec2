package text

import (
	"whetstone/api"
)

// Edit is a change by bytes: those from From up to To gave way to Size others.
type Edit struct {
	From, To, Size int
}

// growth: how many bytes more there are behind an edit.
func (x Edit) growth() int {
	return x.Size - (x.To - x.From)
}

// Moved: a span behind edits; false: one of them touched it.
func Moved(s api.Span, edits []Edit) (api.Span, bool) {
	for _, x := range edits {
		switch {
		case x.putsAt(s):
		case x.To <= s.From:
			s.From += x.growth()
			s.To += x.growth()
		case x.From >= s.To:
		default:
			return api.Span{}, false
		}
	}
	return s, true
}

// putsAt: is the edit one without a byte, where the span without a byte is?
// Such an edit is as well ahead of the span as behind it.
func (x Edit) putsAt(s api.Span) bool {
	return s.From == s.To && api.Span{From: x.From, To: x.To} == s
}
