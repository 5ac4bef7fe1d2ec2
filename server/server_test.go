package server_test

import (
	"fmt"
	"math"
	"math/rand"
	"runtime"
	"strings"
	"testing"
	"time"

	"whetstone/api"
	"whetstone/server"
	"whetstone/session"
)

func framed(body string) string {
	return fmt.Sprintf("Content-Length: %d\r\n\r\n%s", len(body), body)
}

const (
	greeting = `{"jsonrpc":"2.0","id":0,"method":"initialize"}`
	asking   = `{"jsonrpc":"2.0","id":1,"method":"textDocument/hover","params":{"textDocument":{"uri":"a"},"position":{"line":0,"character":3}}}`
	exiting  = `{"jsonrpc":"2.0","method":"exit"}`
)

func opening(text string) string {
	return `{"jsonrpc":"2.0","method":"textDocument/didOpen","params":{"textDocument":{"uri":"a","version":1,"text":"` + text + `"}}}`
}

func changing(version int, text string) string {
	return fmt.Sprintf(`{"jsonrpc":"2.0","method":"textDocument/didChange","params":{"textDocument":{"uri":"a","version":%d},"contentChanges":[{"text":"%s"}]}}`, version, text)
}

// someStream is what a client sends, of a fixed source.
func someStream(source *rand.Rand) string {
	s := framed(greeting)
	for i := range source.Intn(12) {
		s += framed([]string{
			asking, asking, opening("fn f(x: int) -> int = 1 / x;"), opening("fn f(x: int) -> int = x;"), changing(i, "fn f() -> int = g();"), changing(i, "fn f(x: int{v > 0}) -> int = 7 % x;"),
			"nonsense", `{"jsonrpc":"2.0","id":"s","method":"m"}`,
		}[source.Intn(8)])
	}
	return s + []string{"", "", "", framed(exiting) + framed(asking), "x\r\n" + framed(asking), "Content-Length: 9\r\n\r\nabc"}[source.Intn(6)]
}

// somePieces are a stream's, some of them without a byte.
func somePieces(source *rand.Rand, s string) [][]byte {
	var l [][]byte
	most := 1 + source.Intn(len(s))
	for from := 0; from < len(s); {
		to := min(len(s), from+source.Intn(most+1))
		l = append(l, []byte(s[from:to]))
		from = to
		if len(l) > 200 {
			most = len(s)
		}
	}
	if source.Intn(4) == 0 {
		l = append(l, nil)
	}
	return l
}

// fed is what a new server sends to these pieces, one behind the other.
func fed(pieces [][]byte) string {
	s := session.New()
	out := ""
	for _, b := range pieces {
		out += string(s.Feed(b))
	}
	return out
}

func serves(t *testing.T, pieces [][]byte, most int, want string) {
	t.Helper()
	if out, e := server.Serve(pieces, most); string(out) != want || e != api.OK {
		t.Fatalf("%d of %q: %v\n  sends %s\n  not   %s", most, pieces, e, out, want)
	}
}

// TestServe is P23.1: of the first so many pieces, be there fewer, as many or more.
func TestServe(t *testing.T) {
	source := rand.New(rand.NewSource(1))
	for range 300 {
		pieces := somePieces(source, someStream(source))
		count := len(pieces)
		for _, most := range []int{0, 1, source.Intn(count + 1), count - 1, count, count + 1, 2*count + 7, math.MaxInt} {
			serves(t, pieces, most, fed(pieces[:min(most, count)]))
		}
	}
}

// TestServeByHand: the piece behind the last one that is sent is not.
func TestServeByHand(t *testing.T) {
	a, b := []byte(framed(greeting)), []byte(framed(`{"jsonrpc":"2.0","id":1,"method":"m"}`))
	first := framed(`{"jsonrpc":"2.0","id":0,"result":{"capabilities":{"textDocumentSync":2,"hoverProvider":true}}}`)
	other := framed(`{"jsonrpc":"2.0","id":1,"error":{"code":-32601,"message":"unknown method"}}`)
	for most, want := range []string{"", first, first + other, first + other + other, first + other + other} {
		serves(t, [][]byte{a, b, b}, most, want)
	}
	for _, most := range []int{0, 1, math.MaxInt} {
		serves(t, nil, most, "")
		serves(t, [][]byte{}, most, "")
		serves(t, [][]byte{nil, {}}, most, "")
	}
	serves(t, [][]byte{a[:5], a[5:]}, 1, "")
	serves(t, [][]byte{a[:5], a[5:], b}, 2, first)
	serves(t, [][]byte{append(append([]byte{}, a...), b...), a}, 1, first+other)
}

func TestServeBelowNone(t *testing.T) {
	for _, most := range []int{-1, -2, math.MinInt} {
		for _, pieces := range [][][]byte{nil, {[]byte(framed(greeting))}, {[]byte("x\r\n")}} {
			if out, e := server.Serve(pieces, most); len(out) != 0 || e != api.ErrArg {
				t.Errorf("%d: %q, %v", most, out, e)
			}
		}
	}
}

// TestServeBehindTheEnd: a server that is gone hears its client out.
func TestServeBehindTheEnd(t *testing.T) {
	l := [][]byte{[]byte(framed(greeting) + framed(exiting))}
	for range 1000 {
		l = append(l, []byte(framed(asking)))
	}
	want := framed(`{"jsonrpc":"2.0","id":0,"result":{"capabilities":{"textDocumentSync":2,"hoverProvider":true}}}`)
	serves(t, l, len(l), want)
	serves(t, l, 500, want)
}

// TestServeAgain: however the goroutines run, the same is sent.
func TestServeAgain(t *testing.T) {
	var l [][]byte
	for i := range 40 {
		l = append(l, []byte(framed(greeting)), []byte(framed(changing(i, ""))), []byte(framed(asking)))
	}
	want := fed(l[:60])
	for range 2000 {
		serves(t, l, 60, want)
	}
}

// TestSeveral is P23.2: each of the clients is served as by itself.
func TestSeveral(t *testing.T) {
	source := rand.New(rand.NewSource(2))
	for _, count := range []int{0, 1, 2, 3, 10, 60} {
		for range 5 {
			var l [][][]byte
			for range count {
				pieces := somePieces(source, someStream(source))
				if source.Intn(5) == 0 {
					pieces = nil
				}
				l = append(l, pieces)
			}
			got := server.Several(l)
			if len(got) != count {
				t.Fatalf("%d answers of %d", len(got), count)
			}
			for i, pieces := range l {
				if want := fed(pieces); string(got[i]) != want {
					t.Fatalf("%d: %q\n  sends %s\n  not   %s", i, pieces, got[i], want)
				}
			}
		}
	}
	if l := server.Several(nil); len(l) != 0 {
		t.Error(l)
	}
	if l := server.Several([][][]byte{nil, {}}); len(l) != 2 || len(l[0])+len(l[1]) != 0 {
		t.Error(l)
	}
}

// TestPiecesStay: what is handed in isn't changed, nor shared with an answer; no two
// answers share anything.
func TestPiecesStay(t *testing.T) {
	stream := framed(greeting) + framed(opening("fn f() -> int = 1 / 0;")) + framed(asking)
	var l [][]byte
	for from := 0; from < len(stream); from += 50 {
		l = append(l, append([]byte(stream[from:min(len(stream), from+50)]), "room"...)[:min(len(stream)-from, 50)])
	}
	want := fed(l)
	both := server.Several([][][]byte{l, l})
	one, _ := server.Serve(l, len(l))
	spoil(one)
	spoil(both[0])
	if string(both[1]) != want {
		t.Errorf("%s", both[1])
	}
	for i, b := range l {
		if string(b) != stream[50*i:min(len(stream), 50*i+50)] || string(b[:len(b)+4][len(b):]) != "room" {
			t.Errorf("%q is changed", b)
		}
	}
	serves(t, l, len(l), want)
}

func spoil(b []byte) {
	b = b[:cap(b)]
	for i := range b {
		b[i] = '#'
	}
}

// TestAllEnd: no goroutine lives on behind a call.
func TestAllEnd(t *testing.T) {
	ahead := runtime.NumGoroutine()
	l := [][]byte{[]byte(framed(greeting)), []byte(framed(asking)), []byte("x\r\n"), []byte(framed(asking))}
	for most := range 200 {
		server.Serve(l, most%6-1)
		server.Several([][][]byte{l, l[:2], nil, l[1:]})
	}
	// One that is joined may take a moment till it isn't counted any more.
	for range 500 {
		if runtime.NumGoroutine() <= ahead {
			return
		}
		time.Sleep(time.Millisecond)
	}
	t.Error("goroutines:", ahead, runtime.NumGoroutine())
}

// TestGreatPieces: many and great ones.
func TestGreatPieces(t *testing.T) {
	long := framed(opening(strings.Repeat(" ", api.MaxText-30) + "fn f(x: int) -> int = 1 / x;"))
	l := [][]byte{[]byte(framed(greeting)), []byte(long), []byte(long), []byte(framed(asking))}
	want := fed(l)
	serves(t, l, 4, want)
	var small [][]byte
	for _, c := range []byte(long[:20000]) {
		small = append(small, []byte{c})
	}
	serves(t, small, len(small), "")
	serves(t, small, 100, "")
	for i, out := range server.Several([][][]byte{l, small, l, l}) {
		if i != 1 && string(out) != want || i == 1 && len(out) != 0 {
			t.Errorf("%d: %s", i, out)
		}
	}
}
