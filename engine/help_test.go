package engine_test

import (
	"fmt"
	"reflect"
	"slices"
	"strings"
	"testing"

	"whetstone/check"
	"whetstone/engine"
)

// did is what the last Update did, in a line: how many items were read, which
// functions' conditions were made, of which questions were asked, each once.
func did(e *engine.Engine) string {
	s := e.Stats()
	var asked []string
	for _, q := range s.Queries {
		asked = append(asked, fmt.Sprint(q.Fn, ".", q.Cons))
	}
	slices.Sort(asked)
	asked = slices.Compact(asked)
	return fmt.Sprint(s.Parsed, " made ", s.Made, " asked ", asked)
}

// step is a text, and what its Update does.
type step struct{ text, did string }

// steps: one engine does this, text by text, and answers what Check does.
func steps(t *testing.T, l ...step) {
	t.Helper()
	e := engine.New()
	for i, x := range l {
		got, want := e.Update([]byte(x.text)), check.Check([]byte(x.text))
		if !reflect.DeepEqual(got, want) {
			t.Errorf("%d: %s\n  got %v\n  not %v", i, x.text, got, want)
		}
		if did(e) != x.did {
			t.Errorf("%d: %s\n  did %s, not %s", i, x.text, did(e), x.did)
		}
	}
}

// heads is the texts of a report's Sigs, in lines.
func heads(r check.Report) string {
	var l []string
	for _, g := range r.Sigs {
		l = append(l, g.Text)
	}
	return strings.Join(l, "\n")
}
