package session_test

import (
	"strings"
	"testing"

	"whetstone/session"
)

const (
	zero = "fn f() -> int = 1 / 0;"
	fine = "fn f(x: int) -> int = x;"
)

// zeroDiag is what is wrong with zero.
func zeroDiag() string { return diag(bounds(0, 16, 0, 21), 12, "this may divide by 0") }

// someRequests are calls with an ID, but for initialize.
func someRequests() []string {
	return []string{
		request("1", "shutdown", ""), request("-5", "shutdown", "[]"), request(`"x"`, "exit", ""), request(`"\u0041\n"`, "m", `{"a":1}`),
		hover("999999999", "a", 0, 3), request("0", "textDocument/hover", ""), request(`""`, "textDocument/hover", "[1]"), request("7", "", ""),
		strings.Replace(didOpen("b", 1, fine), `"jsonrpc"`, `"id":8,"jsonrpc"`, 1), strings.Replace(didClose("a"), `"jsonrpc"`, `"id":"y","jsonrpc"`, 1),
		strings.Replace(didChange("a", 1, whole("")), `"jsonrpc"`, `"id":-1,"jsonrpc"`, 1), request("1", "Initialize", ""), request("1", "initialize ", ""),
	}
}

// someIDs are the IDs of someRequests, as they are printed.
func someIDs() []string {
	return []string{"1", "-5", `"x"`, `"A\n"`, "999999999", "0", `""`, "7", "8", `"y"`, "-1", "1", "1"}
}

// someNotices are calls without an ID, but for exit.
func someNotices() []string {
	return []string{
		notice("initialize", ""), notice("initialize", "{}"), notice("initialized", "{}"), notice("shutdown", ""), notice("m", ""), notice("", "[]"), notice("Exit", ""), notice("exit ", ""),
		strings.Replace(hover("1", "a", 0, 3), `"id":1,`, "", 1), notice("$/cancelRequest", `{"id":1}`), notice("textDocument/publishDiagnostics", `{"uri":"a","diagnostics":[]}`),
	}
}

func documentNotices() []string {
	return []string{didOpen("a", 1, fine), didOpen("b", 1, zero), didChange("a", 2, whole(zero)), didChange("a", 2), didClose("a")}
}

// faults are bodies that are no calls, and what is sent back.
func faults() []says {
	return []says{
		{"", fault("null", -32700)}, {"nonsense", fault("null", -32700)}, {"{", fault("null", -32700)}, {`{"a":1,"a":1}`, fault("null", -32700)}, {"\xff", fault("null", -32700)}, {"{}x", fault("null", -32700)},
		{`"\ud800"`, fault("null", -32700)}, {strings.Repeat("[", 65) + strings.Repeat("]", 65), fault("null", -32700)},
		{"[1]", fault("null", -32600)}, {"1", fault("null", -32600)}, {"null", fault("null", -32600)}, {"{}", fault("null", -32600)}, {`{"id":[]}`, fault("null", -32600)}, {`{"jsonrpc":"2.0","id":1.5,"method":"exit"}`, fault("null", -32600)},
		{`{"jsonrpc":"2.0","id":null,"method":"shutdown"}`, fault("null", -32600)}, {`{"jsonrpc":"2.0","id":1000000000,"method":"shutdown"}`, fault("null", -32600)},
		{`{"jsonrpc":"1.0","id":3,"method":"shutdown"}`, fault("3", -32600)}, {`{"id":"q","method":"exit"}`, fault(`"q"`, -32600)}, {`{"jsonrpc":2.0,"method":"exit"}`, fault("null", -32600)}, {`{"method":"exit"}`, fault("null", -32600)},
		{`{"jsonrpc":"2.0","id":4}`, fault("4", -32600)}, {`{"jsonrpc":"2.0"}`, fault("null", -32600)}, {`{"jsonrpc":"2.0","result":1}`, fault("null", -32600)},
		{`{"jsonrpc":"2.0","id":5,"method":1}`, fault("5", -32600)}, {`{"jsonrpc":"2.0","id":5,"method":null,"result":1}`, fault("5", -32600)}, {`{"jsonrpc":"2.0","method":["exit"]}`, fault("null", -32600)},
		{`{"jsonrpc":"2.0","id":6,"method":"shutdown","params":null}`, fault("6", -32600)}, {`{"jsonrpc":"2.0","method":"exit","params":1}`, fault("null", -32600)}, {`[` + request("1", "shutdown", "") + `]`, fault("null", -32600)},
		// Replies need no answer.
		{`{"jsonrpc":"2.0","id":1,"result":2}`, ""}, {`{"jsonrpc":"2.0","id":"x","error":{}}`, ""}, {`{"jsonrpc":"2.0","id":1,"result":null,"error":null}`, ""},
	}
}

// all: each of these bodies is answered with the same (nothing, if that is empty).
func all(t *testing.T, s *session.Server, sent string, bodies ...string) {
	t.Helper()
	for _, body := range bodies {
		talks(t, s, says{body, sent})
	}
}

// refused: each of someRequests is answered with a code.
func refused(t *testing.T, s *session.Server, code int) {
	t.Helper()
	ids := someIDs()
	for i, body := range someRequests() {
		talks(t, s, says{body, fault(ids[i], code)})
	}
}

func TestExample(t *testing.T) {
	talks(t, session.New(), says{
		`{"jsonrpc":"2.0","id":1,"method":"shutdown"}`,
		`{"jsonrpc":"2.0","id":1,"error":{"code":-32002,"message":"not initialized"}}`,
	})
}

func TestAsleep(t *testing.T) {
	s := session.New()
	for range 2 {
		refused(t, s, -32002)
		all(t, s, "", someNotices()...)
		all(t, s, "", documentNotices()...)
		talks(t, s, faults()...)
	}
	if s.Over() || len(s.Open()) != 0 || s.Stats().Parsed != 0 {
		t.Error("over, open, stats:", s.Over(), s.Open(), s.Stats())
	}
	// Nothing of it has a part in what comes.
	talks(t, s, greets, says{hover("1", "a", 0, 3), result("1", "null")}, says{didOpen("a", 1, zero), published("a", 1, zeroDiag())})
}

// TestGreeted: whatever initialize says, it is answered the same.
func TestGreeted(t *testing.T) {
	for _, params := range []string{"", "{}", "[]", `{"capabilities":{"x":[1]},"processId":null}`, `["a",null]`} {
		talks(t, session.New(),
			says{request(`"i"`, "initialize", params), result(`"i"`, capabilities)},
			says{request("1", "initialize", params), fault("1", -32600)},
			says{request("2", "shutdown", params), result("2", "null")},
			says{request("3", "initialize", params), fault("3", -32600)})
	}
}

func TestAwake(t *testing.T) {
	s := awake(t, fine)
	for range 2 {
		all(t, s, "", someNotices()...)
		talks(t, s, faults()...)
		ids := someIDs()
		for i, body := range someRequests() {
			if !strings.Contains(body, `"shutdown"`) && !strings.Contains(body, "hover") {
				talks(t, s, says{body, fault(ids[i], -32601)})
			}
		}
		all(t, s, fault("9", -32600), request("9", "initialize", ""), request("9", "initialize", "{}"))
	}
	if s.Over() || strings.Join(s.Open(), " ") != "a" {
		t.Error("over, open:", s.Over(), s.Open())
	}
	textIs(t, s, "a", fine)
	talks(t, s, says{request("5", "shutdown", `{"x":1}`), result("5", "null")})
}

func TestClosing(t *testing.T) {
	s := awake(t, fine)
	talks(t, s, says{request("1", "shutdown", ""), result("1", "null")})
	for range 2 {
		refused(t, s, -32600)
		all(t, s, fault("1", -32600), request("1", "initialize", ""), request("1", "shutdown", ""), hover("1", "a", 0, 3))
		all(t, s, "", someNotices()...)
		all(t, s, "", documentNotices()...)
		talks(t, s, faults()...)
	}
	if s.Over() || strings.Join(s.Open(), " ") != "a" {
		t.Error("over, open:", s.Over(), s.Open())
	}
	textIs(t, s, "a", fine)
	talks(t, s, says{notice("exit", ""), ""})
	if !s.Over() {
		t.Error("it isn't gone")
	}
}

// servers are one asleep, one awake, one that is closing.
func servers(t *testing.T) []*session.Server {
	closing := awake(t, fine)
	talks(t, closing, says{request("1", "shutdown", ""), result("1", "null")})
	return []*session.Server{session.New(), awake(t, fine), closing}
}

// isGone: nothing is read or sent, whatever comes.
func isGone(t *testing.T, s *session.Server) {
	t.Helper()
	if !s.Over() {
		t.Error("it isn't gone")
	}
	open := strings.Join(s.Open(), " ")
	all(t, s, "", someRequests()...)
	all(t, s, "", documentNotices()...)
	all(t, s, "", greets.told, "nonsense", "", notice("exit", ""))
	for _, b := range []string{"", "\n", "x\r\n", "Content-Length: 16777217\r\n\r\n"} {
		if out := s.Feed([]byte(b)); len(out) != 0 {
			t.Errorf("%q is answered: %s", b, out)
		}
	}
	if !s.Over() || strings.Join(s.Open(), " ") != open {
		t.Error("over, open:", s.Over(), s.Open())
	}
}

func TestExit(t *testing.T) {
	for _, params := range []string{"", "{}", "[1]", `{"textDocument":{"uri":"a"}}`} {
		for _, s := range servers(t) {
			if s.Over() {
				t.Error("it is gone ahead of exit")
			}
			talks(t, s, says{notice("exit", params), ""})
			isGone(t, s)
		}
	}
}

// TestExitWithin: of one piece nothing behind exit is read.
func TestExitWithin(t *testing.T) {
	ask, gone := framed(request("1", "m", "")), framed(notice("exit", ""))
	for _, behind := range []string{"", ask, "x\r\n", gone + ask, "Content-Length: 99999999\r\n\r\n", framed("nonsense")} {
		for i, s := range servers(t) {
			want := framed(fault("1", []int{-32002, -32601, -32600}[i]))
			if out := string(s.Feed([]byte(ask + ask + gone + behind))); out != want+want {
				t.Errorf("ahead of %q: %s", behind, out)
			}
			isGone(t, s)
		}
	}
}

func TestBroken(t *testing.T) {
	ask := framed(request("1", "m", ""))
	for _, broken := range []string{"x\r\n", "\n", "\r\n", "Content-Length: x\r\n", "Content-Length: 1\r\nContent-Length: 1\r\n", strings.Repeat("x", 4097)} {
		for i, s := range servers(t) {
			want := framed(fault("1", []int{-32002, -32601, -32600}[i])) + framed(fault("null", -32700))
			if out := string(s.Feed([]byte(ask + broken + ask + broken))); out != want {
				t.Errorf("%q: %s", broken, out)
			}
			isGone(t, s)
		}
	}
}

// TestTooLong: the error comes with the header; so many bytes are skipped, and it goes on.
func TestTooLong(t *testing.T) {
	const count = 16777217
	header := "Content-Length: 16777217\r\n\r\n"
	skipped := []byte(strings.Repeat("\n", count))
	for i, s := range servers(t) {
		if out := string(s.Feed([]byte(header))); out != framed(fault("null", -32600)) || s.Over() {
			t.Error(out)
		}
		if out := s.Feed(skipped[1:]); len(out) != 0 {
			t.Error(short(string(out)))
		}
		behind := "\n" + framed(request("1", "m", "")) + header
		want := framed(fault("1", []int{-32002, -32601, -32600}[i])) + framed(fault("null", -32600))
		if out := string(s.Feed([]byte(behind))); out != want || s.Over() {
			t.Error(out)
		}
	}
}

// TestLongestBody: one byte less is read.
func TestLongestBody(t *testing.T) {
	body := request("1", "m", "")
	body += strings.Repeat(" ", 16777216-len(body))
	talks(t, session.New(), says{body, fault("1", -32002)})
}
