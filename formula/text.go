package formula

import (
	"strconv"
	"strings"

	"whetstone/linear"
)

// Text: a formula's text.
func Text(f F) string {
	var text strings.Builder
	write(&text, f)
	return text.String()
}

func write(text *strings.Builder, f F) {
	switch f.Kind {
	case True:
		text.WriteString("true")
	case Bool:
		text.WriteString("b" + strconv.Itoa(f.Var))
	case Le:
		text.WriteString("(" + linear.Text(f.T) + " <= 0)")
	case Not:
		text.WriteString("!")
		write(text, parts(f)[0])
	case And:
		writeRow(text, f.Args, " & ")
	case Or:
		writeRow(text, f.Args, " | ")
	default:
		text.WriteString("false")
	}
}

func writeRow(text *strings.Builder, l []F, between string) {
	text.WriteString("[ ")
	for i, a := range l {
		if i > 0 {
			text.WriteString(between)
		}
		write(text, a)
	}
	text.WriteString(" ]")
}
