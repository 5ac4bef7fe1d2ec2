package base_test

import (
	"reflect"
	"slices"
	"testing"

	"whetstone/api"
	"whetstone/base"
	"whetstone/syntax"
)

func TestKindOf(t *testing.T) {
	pred := []expr{{Kind: syntax.True}}
	for _, c := range []struct {
		t    syntax.Type
		want base.Kind
	}{
		{syntax.Type{Base: api.Int}, base.Kind{Base: api.Int}},
		{syntax.Type{Base: api.Bool}, base.Kind{Base: api.Bool}},
		{syntax.Type{Base: api.Arr}, base.Kind{Base: api.Arr}},
		{syntax.Type{Base: api.Arr, Len: 1}, base.Kind{Base: api.Arr, Len: 1}},
		{syntax.Type{Base: api.Arr, Len: api.MaxArray, Span: api.Span{From: 3, To: 9}}, base.Kind{Base: api.Arr, Len: api.MaxArray}},
		{syntax.Type{Base: api.Int, Pred: pred, Span: api.Span{From: 3, To: 9}}, base.Kind{Base: api.Int}},
		{syntax.Type{Base: api.Bool, Pred: pred}, base.Kind{Base: api.Bool}},
		{syntax.Type{Base: api.Int, Len: 4}, base.Kind{Base: api.Int}},
		{syntax.Type{Base: api.Bool, Len: 4}, base.Kind{Base: api.Bool}},
		{syntax.Type{}, base.Kind{}},
	} {
		if got := base.KindOf(c.t); got != c.want {
			t.Errorf("KindOf(%v) = %v", c.t, got)
		}
	}
}

const mixed = "qual p(a) = a > 0; fn f() -> int = 1; fn p() -> int = 2; qual f(a, b) = a > b; fn f(x: int) -> int = x; qual q(a) = a = 0; qual p(a, b) = a < b; pub fn g() -> bool = true;"

// TestItems: all of them, in their order, those too that aren't right.
func TestItems(t *testing.T) {
	items := itemsOf(t, split(mixed)...)
	table := base.New(items)
	if table.Count() != 8 || table.Quals() != 4 {
		t.Fatal("items, qualifiers", table.Count(), table.Quals())
	}
	for i, want := range items {
		if it, there := table.Item(i); !there || !reflect.DeepEqual(it, want) {
			t.Errorf("Item(%d) = %v, %v", i, it, there)
		}
	}
	for n, i := range []int{0, 3, 5, 6} {
		if it, there := table.Qual(n); !there || !reflect.DeepEqual(it, items[i]) {
			t.Errorf("Qual(%d) = %v, %v", n, it, there)
		}
	}
}

// TestFindTellsTheFirst: of a Kind and a Name, each by itself.
func TestFindTellsTheFirst(t *testing.T) {
	table := tableOf(t, mixed)
	for _, c := range []struct {
		kind  int
		name  string
		want  int
		there bool
	}{
		{syntax.Fn, "f", 1, true}, {syntax.Qual, "f", 3, true}, {syntax.Fn, "p", 2, true}, {syntax.Qual, "p", 0, true}, {syntax.Qual, "q", 5, true}, {syntax.Fn, "g", 7, true},
		{syntax.Fn, "q", 0, false}, {syntax.Qual, "g", 0, false}, {syntax.Fn, "", 0, false}, {syntax.Fn, "ff", 0, false}, {syntax.Fn, "x", 0, false}, {syntax.Qual, "a", 0, false}, {0, "f", 0, false}, {3, "f", 0, false}, {-1, "p", 0, false},
	} {
		if i, there := table.Find(c.kind, c.name); i != c.want || there != c.there {
			t.Errorf("Find(%d, %q) = %d, %v", c.kind, c.name, i, there)
		}
	}
}

// answersNothing: a table's answers of a number that no item has.
func answersNothing(t *testing.T, table *base.Table, i int) {
	t.Helper()
	if it, there := table.Item(i); there || !reflect.DeepEqual(it, item{}) {
		t.Errorf("Item(%d) = %v, %v", i, it, there)
	}
	if it, there := table.Qual(i); there || !reflect.DeepEqual(it, item{}) {
		t.Errorf("Qual(%d) = %v, %v", i, it, there)
	}
	if f, bad := table.Check(i); bad || f != (base.Fault{}) {
		t.Errorf("Check(%d) = %v, %v", i, f, bad)
	}
}

func TestNumbersOfNoItem(t *testing.T) {
	const most = int(^uint(0) >> 1)
	wrong := tableOf(t, "qual p(a) = a; fn f() -> int = true;")
	for _, i := range []int{-1, 2, 3, 8, 1 << 20, 1<<32 + 1, most, -most - 1} {
		answersNothing(t, wrong, i)
	}
	if it, there := wrong.Qual(1); there || !reflect.DeepEqual(it, item{}) {
		t.Error("Qual of a number of the items, that no qualifier has", it, there)
	}
	for i := range 2 {
		if _, bad := wrong.Check(i); !bad {
			t.Error("an item that there is", i)
		}
	}
}

func TestNilAndEmptyTables(t *testing.T) {
	for _, table := range []*base.Table{nil, base.New(nil), base.New([]item{})} {
		if table.Count() != 0 || table.Quals() != 0 {
			t.Error("items, qualifiers", table.Count(), table.Quals())
		}
		for _, kind := range []int{0, syntax.Fn, syntax.Qual} {
			for _, name := range []string{"", "f"} {
				if i, there := table.Find(kind, name); i != 0 || there {
					t.Errorf("Find(%d, %q) = %d, %v", kind, name, i, there)
				}
			}
		}
		for _, i := range []int{-1, 0, 1} {
			answersNothing(t, table, i)
		}
	}
	if base.New(nil) == nil {
		t.Error("New answers no table")
	}
}

// TestEmptyListsAreNil: also those of items.
func TestEmptyListsAreNil(t *testing.T) {
	it := item{Kind: syntax.Fn, Name: "f", Params: []syntax.Param{}, Result: syntax.Type{Base: api.Int, Pred: []expr{}}, Body: expr{Kind: syntax.Call, Name: "f", Args: []expr{}}}
	if f, bad := base.New([]item{it}).Check(0); bad {
		t.Error("Check with empty lists", f)
	}
	if got := base.Calls(it); !slices.Equal(got, []string{"f"}) {
		t.Error("Calls with empty lists", got)
	}
	it.Result = syntax.Type{Base: api.Arr, Len: 3, Pred: []expr{}}
	if f, bad := base.New([]item{it}).Check(0); bad {
		t.Error("Check of an array without a predicate", f)
	}
}
