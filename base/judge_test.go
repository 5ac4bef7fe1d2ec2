package base_test

import (
	"maps"
	"slices"
	"strings"
	"testing"

	"whetstone/api"
	"whetstone/base"
	"whetstone/syntax"
)

// judge says once more, and in another way, what the chapter says of items: all
// that is wrong is gathered, and what stands first in the order of telling is
// taken.
type judge struct {
	items  []item
	i      int
	faults []base.Fault
}

// known are names, and what they stand for; pred: within a predicate.
type known struct {
	kinds map[string]kind
	pred  bool
}

func (n known) with(name string, k kind) known {
	n.kinds = maps.Clone(n.kinds)
	n.kinds[name] = k
	return n
}

func (n known) within() known { return known{n.kinds, true} }

func (j *judge) tell(is bool, at api.Span, e api.Errno) {
	if is {
		j.faults = append(j.faults, base.Fault{Item: j.i, Span: at, E: e})
	}
}

func judged(items []item, i int) (base.Fault, bool) {
	j := &judge{items: items, i: i}
	j.item(items[i])
	if len(j.faults) == 0 {
		return base.Fault{}, false
	}
	return j.faults[0], true
}

func (j *judge) item(it item) {
	for _, other := range j.items[:j.i] {
		j.tell(other.Kind == it.Kind && other.Name == it.Name, it.At, api.ErrTwice)
	}
	n := known{kinds: map[string]kind{}}
	for _, p := range it.Params {
		j.typ(p.Type, n)
		_, there := n.kinds[p.Name]
		j.tell(there, p.Span, api.ErrTwice)
		n = n.with(p.Name, base.KindOf(p.Type))
	}
	if it.Kind == syntax.Qual {
		j.is(it.Body, n.within(), truth)
	} else {
		j.typ(it.Result, n)
		j.is(it.Body, n, base.KindOf(it.Result))
	}
}

func (j *judge) typ(t syntax.Type, n known) {
	for _, pred := range t.Pred {
		j.tell(t.Base == api.Arr, t.Span, api.ErrPred)
		j.is(pred, n.with("v", base.KindOf(t)).within(), truth)
	}
}

func (j *judge) is(e expr, n known, want kind) {
	k := j.kind(e, n)
	j.tell(k != want, e.Span, api.ErrType)
}

// are: an expression's parts, each of its kind.
func (j *judge) are(e expr, n known, want ...kind) {
	for i, k := range want {
		j.is(e.Args[i], n, k)
	}
}

func (j *judge) array(e expr, n known) kind {
	k := j.kind(e, n)
	j.tell(k.Base != api.Arr, e.Span, api.ErrType)
	return k
}

func (j *judge) kind(e expr, n known) kind {
	if n.pred {
		bad := e.Kind == syntax.Call || e.Kind == syntax.Div || e.Kind == syntax.Mod || e.Kind >= syntax.Let
		j.tell(bad || e.Kind == syntax.Mul && !slices.ContainsFunc(e.Args, constant), e.Span, api.ErrPred)
	}
	switch e.Kind {
	case syntax.Num:
		return number
	case syntax.True, syntax.False:
		return truth
	case syntax.Var:
		k, there := n.kinds[e.Name]
		j.tell(!there, e.Span, api.ErrName)
		j.tell(n.pred && k.Base == api.Arr, e.Span, api.ErrPred)
		return k
	case syntax.Call:
		return j.call(e, n)
	case syntax.Neg:
		j.are(e, n, number)
		return number
	case syntax.Add, syntax.Sub, syntax.Mul, syntax.Div, syntax.Mod:
		j.are(e, n, number, number)
		return number
	case syntax.Lt, syntax.Le, syntax.Gt, syntax.Ge:
		j.are(e, n, number, number)
	case syntax.Not:
		j.are(e, n, truth)
	case syntax.And, syntax.Or:
		j.are(e, n, truth, truth)
	case syntax.Eq, syntax.Ne:
		k := j.kind(e.Args[0], n)
		j.tell(k.Base == api.Arr, e.Args[0].Span, api.ErrType)
		j.tell(n.pred && k == truth, e.Span, api.ErrPred)
		j.is(e.Args[1], n, k)
	default:
		return j.other(e, n)
	}
	return truth
}

func (j *judge) call(e expr, n known) kind {
	i := slices.IndexFunc(j.items, func(it item) bool { return it.Kind == syntax.Fn && it.Name == e.Name })
	if i < 0 {
		j.tell(true, e.Span, api.ErrName)
		return kind{}
	}
	params := j.items[i].Params
	j.tell(len(e.Args) != len(params), e.Span, api.ErrArgs)
	for i := range min(len(e.Args), len(params)) {
		j.is(e.Args[i], n, base.KindOf(params[i].Type))
	}
	return base.KindOf(j.items[i].Result)
}

func (j *judge) other(e expr, n known) kind {
	switch e.Kind {
	case syntax.Let:
		k := j.kind(e.Args[0], n)
		_, there := n.kinds[e.Name]
		j.tell(there, e.Span, api.ErrTwice)
		return j.kind(e.Args[1], n.with(e.Name, k))
	case syntax.If:
		j.is(e.Args[0], n, truth)
		k := j.kind(e.Args[1], n)
		j.is(e.Args[2], n, k)
		return k
	case syntax.Assert:
		j.is(e.Args[0], n, truth)
		return j.kind(e.Args[1], n)
	case syntax.Get:
		j.array(e.Args[0], n)
		j.is(e.Args[1], n, number)
	case syntax.Set:
		k := j.array(e.Args[0], n)
		j.is(e.Args[1], n, number)
		j.is(e.Args[2], n, number)
		return k
	case syntax.Len:
		j.array(e.Args[0], n)
	case syntax.Fill:
		j.is(e.Args[0], n, number)
		return arr(fillCount(e))
	}
	return number
}

// fillCount: by its text.
func fillCount(e expr) int {
	count := 0
	for _, c := range strings.TrimPrefix(syntax.Show(e), "fill(") {
		if c == ',' {
			break
		}
		count = 10*count + int(c-'0')
	}
	return count
}

// constant: by its text.
func constant(e expr) bool { return strings.Trim(syntax.Show(e), "0123456789+-* ()") == "" }

// someItems are texts of the maker's functions, and of others that call them.
func (m *maker) someItems() []string {
	var l []string
	for _, h := range m.heads {
		l = append(l, m.ofHead(h))
	}
	for range m.Intn(4) {
		l = append(l, m.qualifier(m.one("qa", "qb", "qc", "num")))
	}
	for range m.Intn(6) {
		var params []kind
		for range m.Intn(7) {
			params = append(params, m.kind())
		}
		l = append(l, m.function(m.one("fa", "fb", "fc", "fd", "qa", "num"), m.kind(), params...))
	}
	m.Shuffle(len(l), func(i, j int) { l[i], l[j] = l[j], l[i] })
	return l
}

// TestCheckAsJudged: items that are wrong in any ways, and right ones.
func TestCheckAsJudged(t *testing.T) {
	m := newMaker(3)
	count := map[api.Errno]int{}
	for n := range 2500 {
		m.slips = n % 12
		texts := m.someItems()
		items := itemsOf(t, texts...)
		table := base.New(items)
		for i := range items {
			want, bad := judged(items, i)
			if f, is := table.Check(i); f != want || is != bad {
				t.Fatalf("Check of item %d of %q = %v, %v, not %v, %v", i, texts, f, is, want, bad)
			}
			count[want.E]++
		}
	}
	for _, e := range []api.Errno{api.OK, api.ErrTwice, api.ErrPred, api.ErrType, api.ErrName, api.ErrArgs} {
		if count[e] < 300 {
			t.Errorf("error %d is told %d times", e, count[e])
		}
	}
}

// TestRightByMaking: what the maker makes is right, till something of it is
// broken, and that is told.
func TestRightByMaking(t *testing.T) {
	m := newMaker(4)
	count := map[api.Errno]int{}
	for range 12000 {
		m.e, m.breaks = api.OK, 1+m.Intn(40)
		var s string
		if m.Intn(4) == 0 {
			s = m.qualifier("own")
		} else {
			s = m.function("own", m.kind(), m.kind(), m.kind(), m.kind())
		}
		m.breaks = -1
		checks(t, ownHeads+s, m.e)
		if t.Failed() {
			t.Fatal("the item is", s)
		}
		count[m.e]++
	}
	for _, e := range []api.Errno{api.OK, api.ErrTwice, api.ErrPred, api.ErrType, api.ErrName, api.ErrArgs} {
		if count[e] < 300 {
			t.Errorf("error %d is told %d times", e, count[e])
		}
	}
}

// ownHeads are functions with the heads of the maker's.
const ownHeads = "fn num() -> int = 7; fn yes() -> bool = true; fn three() -> arr 3 = fill(3, 0); fn odd(x: int) -> bool = x % 2 = 1; fn pick(a: arr 3, i: int, t: bool) -> int = if t then get(a, i) else 0; fn turn(a: arr 2, b: arr 3) -> arr 2 = a; "
