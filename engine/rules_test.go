package engine_test

import (
	"math/rand"
	"reflect"
	"slices"
	"strings"
	"sync"
	"testing"

	"whetstone/api"
	"whetstone/check"
	"whetstone/engine"
	"whetstone/horn"
)

// TestNil: nothing.
func TestNil(t *testing.T) {
	var e *engine.Engine
	if r := e.Update([]byte("fn f(x: int) -> int = 1 / x;")); len(r.Diags)+len(r.Sigs) != 0 {
		t.Error(r)
	}
	if r := e.Report(); len(r.Diags)+len(r.Sigs) != 0 {
		t.Error(r)
	}
	if s := e.Stats(); s.Parsed+len(s.Made)+len(s.Queries) != 0 {
		t.Error(s)
	}
	if vars, clauses, learned := e.Sizes(); vars+clauses+learned != 0 {
		t.Error(vars, clauses, learned)
	}
}

// TestNew: it knows nothing, nor does one that isn't made by New; each knows by itself.
func TestNew(t *testing.T) {
	var zero engine.Engine
	other := engine.New()
	for _, e := range []*engine.Engine{engine.New(), &zero} {
		if r := e.Report(); len(r.Diags)+len(r.Sigs) != 0 {
			t.Error(r)
		}
		if did(e) != "0 made [] asked []" {
			t.Error(did(e))
		}
		if vars, clauses, learned := e.Sizes(); vars+clauses+learned != 0 {
			t.Error(vars, clauses, learned)
		}
		const s = "qual p(a) = a > 0; fn f(x: int) -> int = 1 / x;"
		if r := e.Update([]byte(s)); !reflect.DeepEqual(r, check.Check([]byte(s))) || did(e) != "2 made [f] asked [f.0 f.1]" {
			t.Error(r, did(e))
		}
		if r := e.Update(nil); len(r.Diags)+len(r.Sigs) != 0 || did(e) != "0 made [] asked []" {
			t.Error(r, did(e))
		}
	}
	if r := other.Report(); len(r.Sigs) != 0 {
		t.Error("engines share what they know:", r)
	}
}

// TestTextStays: the bytes that are handed in aren't changed, nor kept, nor those
// behind them.
func TestTextStays(t *testing.T) {
	for seed := range int64(60) {
		p := newProject(1000 + seed)
		e, j := engine.New(), &judge{}
		for range 6 {
			s := p.next()
			b := append([]byte(s), "room"...)
			want := slices.Clone(b)
			r := e.Update(b[:len(s)])
			if !slices.Equal(b, want) {
				t.Fatalf("%q is changed", s)
			}
			for i := range b {
				b[i] = '#'
			}
			if !reflect.DeepEqual(e.Report(), r) || !reflect.DeepEqual(r, check.Check([]byte(s))) {
				t.Fatalf("%q is kept", s)
			}
			j.next(s)
			// Nor does anything else that is known hang on the bytes.
			s = p.next()
			judges(t, e, j, s)
		}
	}
}

// TestAnswersAreNew: whoever writes over an answer changes nothing that is known.
func TestAnswersAreNew(t *testing.T) {
	const s = "qual p(a) = a > 0; fn f(x: int) -> int = 1 / x; pub fn g(x: int) -> int = f(x);"
	spoil := func(r check.Report, st engine.Stats) {
		for i := range r.Diags {
			r.Diags[i] = api.Diag{Code: 99}
		}
		for i := range r.Sigs {
			r.Sigs[i] = check.Sig{Text: "spoilt"}
		}
		for i := range st.Made {
			st.Made[i] = "spoilt"
		}
		for i := range st.Queries {
			st.Queries[i] = horn.Query{Fn: "spoilt"}
		}
		_ = append(r.Diags, api.Diag{Code: 98})
		_ = append(r.Sigs, check.Sig{Text: "spoilt"})
		_ = append(st.Made, "spoilt")
		_ = append(st.Queries, horn.Query{Fn: "spoilt"})
	}
	e := engine.New()
	want := check.Check([]byte(s))
	spoil(e.Update([]byte(s)), e.Stats())
	for range 2 {
		if !reflect.DeepEqual(e.Report(), want) || did(e) != "3 made [f g] asked [f.0 f.1 g.0]" {
			t.Error(e.Report(), did(e))
		}
		spoil(e.Report(), e.Stats())
	}
	if r := e.Update([]byte(s + " ")); !reflect.DeepEqual(r, want) || did(e) != "0 made [] asked []" {
		t.Error(r, did(e))
	}
	if r := e.Update([]byte(s + "fn h() -> int = f(1);")); !reflect.DeepEqual(r, check.Check([]byte(s+"fn h() -> int = f(1);"))) {
		t.Error(r)
	}
}

// TestAnyBytes: nothing panics, and what is told is what Check tells.
func TestAnyBytes(t *testing.T) {
	m := rand.New(rand.NewSource(7))
	words := strings.Fields("fn qual pub let in if then else assert true false int bool arr v get set len fill not and or ( ) { } , ; ; : = -> + * / % < >= != x f 0 1 99 # // \x00 \xff \u20ac")
	e, j := engine.New(), &judge{}
	p := newProject(77)
	for n := range 3000 {
		var b []byte
		switch n % 4 {
		case 0:
			b = make([]byte, m.Intn(60))
			m.Read(b)
		case 1:
			for range m.Intn(60) {
				b = append(append(b, words[m.Intn(len(words))]...), " \n"[m.Intn(2)])
			}
		case 2:
			b = []byte(p.next())
		default:
			b = []byte(p.next())
			for range min(len(b), 1+m.Intn(3)) {
				b[m.Intn(len(b))] = "fx10v;(){}=-/ ,\n#"[m.Intn(17)]
			}
			b = b[:m.Intn(len(b)+1)]
		}
		judges(t, e, j, string(b))
	}
}

// TestAtOnce: engines share nothing.
func TestAtOnce(t *testing.T) {
	var wait sync.WaitGroup
	for seed := range int64(12) {
		p := newProject(2000 + seed)
		var l []string
		for range 8 {
			l = append(l, p.next())
		}
		wait.Go(func() {
			e := engine.New()
			for _, s := range l {
				if got, want := e.Update([]byte(s)), check.Check([]byte(s)); !reflect.DeepEqual(got, want) {
					t.Errorf("%q\n  got %v\n  not %v", s, got, want)
				}
			}
		})
	}
	wait.Wait()
}

// TestGreatTexts: as many items as there may be, in a chain, of which one is changed.
func TestGreatTexts(t *testing.T) {
	text := func(end string) string {
		var s strings.Builder
		s.WriteString("qual p(a) = a >= 0; qual l(a, b) = a >= b;")
		for i := range api.MaxItems - 4 {
			s.WriteString(" fn f" + number3(i) + "(x: int) -> int = f" + number3(i+1) + "(x + 1);")
		}
		s.WriteString(" fn f" + number3(api.MaxItems-4) + "(x: int) -> int = " + end + "; pub fn g(x: int) -> int = 1 / f000(x);")
		return s.String()
	}
	e, j := engine.New(), &judge{}
	judges(t, e, j, text("x"))
	judges(t, e, j, text("x + 1"))
	judges(t, e, j, text("if x > 0 then x else 1"))
	row := "pub fn f(x: int{v > 0}) -> int = if true" + strings.Repeat(" and x > 0", 20000) + " then 1 / x else 0;"
	judges(t, e, j, row)
	judges(t, e, j, row+strings.Repeat(" ", 1<<20)+"fn g() -> int = 1;"+strings.Repeat("// ;\n", 1<<16))
}

func number3(i int) string {
	return string([]byte{'0' + byte(i/100), '0' + byte(i/10%10), '0' + byte(i%10)})
}
