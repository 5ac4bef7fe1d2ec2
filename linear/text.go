package linear

import (
	"strconv"
	"strings"

	"whetstone/big"
)

// Text: a sum's text: its parts, and the number behind them.
func Text(t Term) string {
	var text strings.Builder
	for v, coef := range Vars(t) {
		writeNumber(&text, coef)
		text.WriteString("*x")
		text.WriteString(strconv.Itoa(v))
	}
	if text.Len() == 0 || big.Sign(t.Const) != 0 {
		writeNumber(&text, t.Const)
	}
	return text.String()
}

// writeNumber: a number below 0 brings its own sign along.
func writeNumber(text *strings.Builder, n big.Int) {
	if text.Len() > 0 && big.Sign(n) >= 0 {
		text.WriteByte('+')
	}
	text.WriteString(big.Text(n))
}
