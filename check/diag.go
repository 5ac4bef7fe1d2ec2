package check

import (
	"cmp"
	"slices"
	"strconv"

	"whetstone/api"
	"whetstone/base"
	"whetstone/gen"
)

// Shift: a span of an item, as one of the text.
func Shift(s api.Span, by int) api.Span {
	return api.Span{From: s.From + by, To: s.To + by}
}

// SyntaxDiag: what is wrong with an item's bytes. TypeDiag: with its names and types. ConsDiag: a condition that doesn't hold.
func SyntaxDiag(at int, s api.Span, e api.Errno) api.Diag {
	return api.Diag{Span: Shift(s, at), Code: api.CodeSyntax, Text: errorText(e)}
}

func TypeDiag(at int, f base.Fault) api.Diag {
	code := api.CodeType
	if f.E == api.ErrName || f.E == api.ErrTwice {
		code = api.CodeName
	}
	return api.Diag{Span: Shift(f.Span, at), Code: code, Text: errorText(f.E)}
}

func ConsDiag(at int, c gen.Cons) api.Diag {
	return api.Diag{Span: Shift(c.Span, at), Code: c.Code, Text: codeText(c.Code)}
}

// errorText: the message of an error.
func errorText(e api.Errno) string {
	switch e {
	case api.ErrToken:
		return "no token begins here"
	case api.ErrBig:
		return "too long, or too great"
	case api.ErrEnds:
		return "something is missing at the end"
	case api.ErrExpect:
		return "unexpected"
	case api.ErrDeep:
		return "too deep"
	case api.ErrMore:
		return "something stands behind the end"
	case api.ErrName:
		return "unknown name"
	case api.ErrTwice:
		return "this name is there already"
	case api.ErrType:
		return "another type must stand here"
	case api.ErrArgs:
		return "more or fewer arguments than parameters"
	case api.ErrPred:
		return "this may not be in a predicate"
	}
	return "error " + strconv.Itoa(int(e))
}

// codeText: the message of a condition's code.
func codeText(code int) string {
	switch code {
	case api.CodeAssert:
		return "this may not hold"
	case api.CodeBound:
		return "this may be out of bounds"
	case api.CodeZero:
		return "this may divide by 0"
	case api.CodeCall:
		return "this argument may not be as the parameter asks"
	case api.CodeResult:
		return "the result may not be as the function says"
	}
	return ""
}

// Sorted: in the order in which they are told, each once.
func Sorted(l []api.Diag) []api.Diag {
	l = slices.Clone(l)
	slices.SortFunc(l, func(a, b api.Diag) int {
		return cmp.Or(
			cmp.Compare(a.Span.From, b.Span.From),
			cmp.Compare(a.Span.To, b.Span.To),
			cmp.Compare(a.Code, b.Code),
			cmp.Compare(a.Text, b.Text),
		)
	})
	return slices.Compact(l)
}
