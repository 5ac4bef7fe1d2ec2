package check_test

import (
	"fmt"
	"slices"
	"strings"
	"testing"

	"whetstone/api"
	"whetstone/base"
	"whetstone/check"
	"whetstone/lex"
	"whetstone/syntax"
)

type (
	diag = api.Diag
	span = api.Span
)

// tableOf is the table of a text's items, with the Spans that items have in it.
func tableOf(t testing.TB, s string) (*base.Table, []span) {
	t.Helper()
	var items []syntax.Item
	spans := slices.Collect(lex.Items([]byte(s)))
	for _, at := range spans {
		it, where, e := syntax.Parse([]byte(s[at.From:at.To]))
		if e != api.OK {
			t.Fatalf("%q: %v, %d", s, where, e)
		}
		items = append(items, it)
	}
	return base.New(items), spans
}

// told is a report in lines: of each Diag its code and the text that it is of, of each
// Sig its text.
func told(s string, r check.Report) []string {
	var l []string
	for _, d := range r.Diags {
		l = append(l, fmt.Sprint(d.Code, " `", s[d.Span.From:d.Span.To], "`"))
	}
	for _, g := range r.Sigs {
		l = append(l, g.Text)
	}
	return l
}

// reports: of a text this is told.
func reports(t *testing.T, s string, want ...string) {
	t.Helper()
	if got := told(s, check.Check([]byte(s))); !slices.Equal(got, want) {
		t.Errorf("%s\n  got\n    %s\n  not\n    %s", s, strings.Join(got, "\n    "), strings.Join(want, "\n    "))
	}
}

// diagnoses: of a text just this is wrong, and nothing is told of names.
func diagnoses(t *testing.T, s string, want ...diag) {
	t.Helper()
	r := check.Check([]byte(s))
	if !slices.Equal(r.Diags, want) {
		t.Errorf("%q\n  got %v\n  not %v", s, r.Diags, want)
	}
	if len(r.Sigs) != 0 {
		t.Errorf("%q: %v", s, r.Sigs)
	}
}

// texts are items that are the same but for their numbers.
func texts(count int, item string) string {
	var s strings.Builder
	for i := range count {
		fmt.Fprintf(&s, item, i)
	}
	return s.String()
}
