package json_test

import (
	"math"
	"strconv"
	"testing"

	"whetstone/api"
	"whetstone/json"
)

func TestGet(t *testing.T) {
	v := object(keyed("a", number("1")), keyed("b", array(null())), keyed("a", number("2")), keyed("", text("none")))
	for key, want := range map[string]json.Value{"a": number("1"), "b": array(null()), "": text("none")} {
		if got, ok := json.Get(v, key); !ok || !same(got, want) {
			t.Errorf("Get(%q) = %v, %v, not %v", key, got, ok, want)
		}
	}
	for _, key := range []string{"c", "A", "a ", "aa", "\xff"} {
		if got, ok := json.Get(v, key); ok || !isNothing(got) {
			t.Errorf("Get(%q) = %v, %v", key, got, ok)
		}
	}
}

func TestGetOfWhatIsNoObject(t *testing.T) {
	keys, list := []string{"a"}, []json.Value{number("1")}
	for _, v := range []json.Value{
		{}, text("a"), array(number("1")), object(),
		{Kind: json.Null, Keys: keys, List: list}, {Kind: json.Array, Keys: keys, List: list}, {Kind: 7, Keys: keys, List: list}, {Kind: -1, Keys: keys, List: list},
		{Kind: json.Object, Keys: keys}, {Kind: json.Object, List: list}, {Kind: json.Object, Keys: []string{"a", "b"}, List: list}, {Kind: json.Object, Keys: keys, List: array2()},
	} {
		if got, ok := json.Get(v, "a"); ok || !isNothing(got) {
			t.Errorf("Get of %v = %v, %v", v, got, ok)
		}
	}
}

func TestInt(t *testing.T) {
	for s, want := range map[string]int{
		"0": 0, "1": 1, "-1": -1, "9": 9, "10": 10, "-10": -10, "999999999": 999999999, "-999999999": -999999999, "123456789": 123456789, "100000000": 100000000,
	} {
		if got, ok := json.Int(number(s)); !ok || got != want {
			t.Errorf("Int(%q) = %d, %v", s, got, ok)
		}
	}
	for _, s := range []string{
		"", "-0", "00", "01", "-01", "+1", " 1", "1 ", "1.0", "1.", "0.0", "1e1", "1E1", "0e0", "1000000000", "-1000000000", "0000000001", "2147483648", "9223372036854775808", "99999999999999999999", "-", "x", "1x", "1_0", "0x1", "--1", "1-", "\xff", "\u0661", "-00",
	} {
		if got, ok := json.Int(number(s)); ok || got != 0 {
			t.Errorf("Int(%q) = %d, %v", s, got, ok)
		}
	}
	for _, kind := range []int{json.Null, json.False, json.True, json.String, json.Array, json.Object, 7, -1} {
		if got, ok := json.Int(json.Value{Kind: kind, Text: "1"}); ok || got != 0 {
			t.Errorf("Int of kind %d = %d, %v", kind, got, ok)
		}
	}
}

func TestOf(t *testing.T) {
	for _, n := range []int{0, 1, -1, 7, 10, -10, 999999999, -999999999, 1000000000, math.MaxInt, math.MinInt} {
		want := strconv.Itoa(n)
		if v := json.Of(n); !same(v, number(want)) {
			t.Errorf("Of(%d) = %v", n, v)
		}
		prints(t, json.Of(n), want)
		back, ok := json.Int(json.Of(n))
		if small := n >= -999999999 && n <= 999999999; ok != small || small && back != n {
			t.Errorf("Int(Of(%d)) = %d, %v", n, back, ok)
		}
	}
}

func TestText(t *testing.T) {
	for _, s := range []string{"", "a", "\"\\", "\u20ac\U0001f600", "\xff", "null", "1"} {
		if v := json.Text(s); !same(v, text(s)) {
			t.Errorf("Text(%q) = %v", s, v)
		}
	}
}

func TestMade(t *testing.T) {
	if v := json.Made(); !same(v, object()) {
		t.Error("Made of nothing", v)
	}
	pairs := []pair{keyed("b", json.Of(1)), keyed("a", json.Made(keyed("c", json.Text("d")))), keyed("b", null()), keyed("\xff", json.Value{Kind: 9})}
	for n := range len(pairs) + 1 {
		if v := json.Made(pairs[:n]...); !same(v, object(pairs[:n]...)) {
			t.Errorf("Made of %d: %v", n, v)
		}
	}
	prints(t, json.Made(pairs[:2]...), `{"b":1,"a":{"c":"d"}}`)
	printFails(t, json.Made(pairs[:3]...), api.ErrTwice)
	if v, ok := json.Get(json.Made(pairs...), "b"); !ok || !same(v, number("1")) {
		t.Error("the first of two", v, ok)
	}
}

// unlikeValues are values of which no two are the same.
func unlikeValues() []json.Value {
	return []json.Value{
		null(), {Kind: json.False}, {Kind: json.True}, {Kind: 7}, {Kind: -1},
		number("1"), number("1.0"), number("10"), number("-0"), number("0"), number("x"), text(""), text("1"), text("a"), text("A"), text("\xff"), text("\ufffd"),
		array(), array(null()), array(null(), null()), array(number("1"), number("2")), array(number("2"), number("1")), array(array()), array(object()), array(array(null())), array(number("1")),
		object(), object(keyed("a", null())), object(keyed("b", null())), object(keyed("a", number("1"))), object(keyed("", null())), object(keyed("a", object(keyed("a", null())))),
		object(keyed("a", null()), keyed("b", null())), object(keyed("b", null()), keyed("a", null())), object(keyed("a", null()), keyed("a", null())), object(keyed("a", array()), keyed("b", null())),
		{Kind: json.Object, Keys: []string{"a"}}, {Kind: json.Object, List: []json.Value{null()}}, {Kind: json.Object, Keys: []string{"a", "b"}, List: []json.Value{null()}},
	}
}

func TestEqual(t *testing.T) {
	all := unlikeValues()
	for i, a := range all {
		for j, b := range all {
			if got := json.Equal(a, tidy(b)); got != (i == j) {
				t.Errorf("Equal(%v, %v) = %v", a, b, got)
			}
			if got := json.Equal(array(null(), a), array(null(), b)); got != (i == j) {
				t.Errorf("Equal of arrays of %v, %v = %v", a, b, got)
			}
			if got := json.Equal(object(keyed("k", a)), object(keyed("k", b))); got != (i == j) {
				t.Errorf("Equal of objects of %v, %v = %v", a, b, got)
			}
		}
	}
}

func TestEqualOfNilAndEmpty(t *testing.T) {
	if !json.Equal(json.Value{Kind: json.Array}, json.Value{Kind: json.Array, List: []json.Value{}}) {
		t.Error("arrays of nothing")
	}
	if !json.Equal(json.Value{Kind: json.Object}, json.Value{Kind: json.Object, Keys: []string{}, List: []json.Value{}}) {
		t.Error("objects of nothing")
	}
}

// littered is a value with something in each field that its kind doesn't
// name, however deep.
func littered(v json.Value) json.Value {
	out := tidy(v)
	for i, part := range out.List {
		out.List[i] = littered(part)
	}
	junk := json.Value{Kind: 9, Text: "junk", Keys: []string{"junk"}}
	if v.Kind != json.Number && v.Kind != json.String {
		out.Text = "junk"
	}
	if v.Kind != json.Object {
		out.Keys = []string{"junk"}
	}
	if v.Kind != json.Array && v.Kind != json.Object {
		out.List = []json.Value{junk}
	}
	return out
}

// TestWhatAKindDoesNotNameIsNothing: it isn't compared, and no answer has it.
func TestWhatAKindDoesNotNameIsNothing(t *testing.T) {
	for _, v := range append(unlikeValues(), array(null(), array(number("1")), object(keyed("a", text("b"))))) {
		with := littered(v)
		if !json.Equal(v, with) || !json.Equal(with, v) {
			t.Errorf("Equal(%v, %v)", v, with)
		}
		if got, ok := json.Get(object(keyed("a", with)), "a"); !ok || !same(got, v) {
			t.Errorf("Get answers %v, not %v", got, v)
		}
		if got := json.Made(keyed("a", with)); !same(got, object(keyed("a", v))) {
			t.Errorf("Made answers %v", got)
		}
	}
}

// TestDeepValues: as many in one another as the document's bound lets be.
func TestDeepValues(t *testing.T) {
	a, b := nested(1<<16-2, number("1")), nested(1<<16-2, number("1"))
	if !json.Equal(a, b) || json.Equal(a, nested(1<<16-2, number("2"))) {
		t.Error("Equal of deep values")
	}
	if got, ok := json.Get(json.Made(keyed("a", a)), "a"); !ok || !json.Equal(got, b) {
		t.Error("Get of a deep value")
	}
}
