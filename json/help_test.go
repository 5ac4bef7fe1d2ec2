package json_test

import (
	"math/rand"
	"reflect"
	"strings"
	"testing"

	"whetstone/api"
	"whetstone/json"
)

func null() json.Value                    { return json.Value{Kind: json.Null} }
func number(s string) json.Value          { return json.Value{Kind: json.Number, Text: s} }
func text(s string) json.Value            { return json.Value{Kind: json.String, Text: s} }
func array(l ...json.Value) json.Value    { return json.Value{Kind: json.Array, List: l} }
func keyed(key string, v json.Value) pair { return pair{Key: key, V: v} }

type pair = json.Pair

func object(l ...pair) json.Value {
	v := json.Value{Kind: json.Object}
	for _, p := range l {
		v.Keys, v.List = append(v.Keys, p.Key), append(v.List, p.V)
	}
	return v
}

// nested is a value in so many arrays.
func nested(n int, v json.Value) json.Value {
	for range n {
		v = array(v)
	}
	return v
}

// tidy makes empty lists nil, so that the library can hold values against
// each other field by field.
func tidy(v json.Value) json.Value {
	out := json.Value{Kind: v.Kind, Text: v.Text}
	out.Keys = append(out.Keys, v.Keys...)
	for _, part := range v.List {
		out.List = append(out.List, tidy(part))
	}
	return out
}

func same(a, b json.Value) bool {
	return reflect.DeepEqual(tidy(a), tidy(b))
}

func isNothing(v json.Value) bool {
	return same(v, json.Value{})
}

func parses(t *testing.T, s string, want json.Value) {
	t.Helper()
	v, at, e := json.Parse([]byte(s))
	if at != 0 || e != api.OK || !same(v, want) {
		t.Fatalf("Parse(%q) = %v, %d, %d, not %v", s, v, at, e, want)
	}
}

func fails(t *testing.T, s string, at int, e api.Errno) {
	t.Helper()
	v, gotAt, got := json.Parse([]byte(s))
	if got != e || gotAt != at || !isNothing(v) {
		t.Errorf("Parse(%q) = %v, %d, %d, not %d, %d", s, v, gotAt, got, at, e)
	}
}

func prints(t *testing.T, v json.Value, want string) {
	t.Helper()
	if b, e := json.Print(v); e != api.OK || string(b) != want {
		t.Errorf("Print(%v) = %q, %d, not %q", v, b, e, want)
	}
}

func printFails(t *testing.T, v json.Value, want api.Errno) {
	t.Helper()
	if b, e := json.Print(v); e != want || len(b) != 0 {
		t.Errorf("Print(%v) = %q, %d, not %d", v, b, e, want)
	}
}

// maker writes texts, and what they mean, of a fixed source.
type maker struct {
	*rand.Rand
}

func newMaker(seed int64) maker {
	return maker{rand.New(rand.NewSource(seed))}
}

func (m maker) one(of ...string) string {
	return of[m.Intn(len(of))]
}

func (m maker) blank() string {
	return m.one("", "", "", " ", "\t", "\n", "\r", " \r\n\t ")
}

func (m maker) number() string {
	return m.one("", "-") + m.one("0", "1", "9", "10", "120", "98765432109876543210") +
		m.one("", "", ".0", ".5", ".1230") + m.one("", "", "e1", "E0", "e+12", "E-3", "e007")
}

// string: how it is written, and what it means.
func (m maker) string() (string, string) {
	parts := [][2]string{
		{"a", "a"}, {"b", "b"}, {"\u20ac", "\u20ac"}, {"\U0001f600", "\U0001f600"}, {"\x7f", "\x7f"}, {"/", "/"}, {"\u2028", "\u2028"}, {"<", "<"}, {" ", " "},
		{`\"`, `"`}, {`\\`, `\`}, {`\/`, "/"}, {`\b`, "\b"}, {`\f`, "\f"}, {`\n`, "\n"}, {`\r`, "\r"}, {`\t`, "\t"},
		{`\u0000`, "\x00"}, {`\u001f`, "\x1f"}, {`\u0061`, "a"}, {`\u00E9`, "\u00e9"}, {`\u20aC`, "\u20ac"}, {`\uFFFF`, "\uffff"}, {`\ud7ff`, "\ud7ff"}, {`\ue000`, "\ue000"},
		{`\ud83d\ude00`, "\U0001f600"}, {`\uD800\uDC00`, "\U00010000"}, {`\udbff\udfff`, "\U0010ffff"}, {`\u005c`, `\`}, {`\u0022`, `"`},
	}
	var written, meant strings.Builder
	for range m.Intn(5) {
		p := parts[m.Intn(len(parts))]
		written.WriteString(p[0])
		meant.WriteString(p[1])
	}
	return `"` + written.String() + `"`, meant.String()
}

// value: how it is written, blanks around it, and what it means.
func (m maker) value(deep int) (string, json.Value) {
	s, v := m.bare(deep)
	return m.blank() + s + m.blank(), v
}

func (m maker) bare(deep int) (string, json.Value) {
	kinds := 7
	if deep == 0 {
		kinds = 5
	}
	switch m.Intn(kinds) {
	case json.Null:
		return "null", null()
	case json.False:
		return "false", json.Value{Kind: json.False}
	case json.True:
		return "true", json.Value{Kind: json.True}
	case json.Number:
		s := m.number()
		return s, number(s)
	case json.String:
		s, meant := m.string()
		return s, text(meant)
	case json.Array:
		return m.array(deep)
	}
	return m.object(deep)
}

func (m maker) array(deep int) (string, json.Value) {
	v := array()
	parts := []string{}
	for range m.Intn(4) {
		s, part := m.value(deep - 1)
		parts, v.List = append(parts, s), append(v.List, part)
	}
	return bracketed("[", parts, "]", m.blank()), v
}

func (m maker) object(deep int) (string, json.Value) {
	v := object()
	parts := []string{}
	seen := map[string]bool{}
	for range m.Intn(4) {
		key, meant := m.string()
		if seen[meant] {
			continue
		}
		seen[meant] = true
		s, part := m.value(deep - 1)
		parts = append(parts, m.blank()+key+m.blank()+":"+s)
		v.Keys, v.List = append(v.Keys, meant), append(v.List, part)
	}
	return bracketed("{", parts, "}", m.blank()), v
}

func bracketed(open string, parts []string, end, blank string) string {
	if len(parts) == 0 {
		return open + blank + end
	}
	return open + strings.Join(parts, ",") + end
}
