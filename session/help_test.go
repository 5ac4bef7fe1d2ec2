package session_test

import (
	"fmt"
	"strings"
	"testing"

	"whetstone/session"
)

// framed is a message's bytes.
func framed(body string) string {
	return fmt.Sprintf("Content-Length: %d\r\n\r\n%s", len(body), body)
}

// quoted is a string's text, in the words of chapter 4.
func quoted(s string) string {
	var b strings.Builder
	for i := range len(s) {
		switch c := s[i]; {
		case c == '"' || c == '\\':
			b.WriteString(`\` + string(c))
		case strings.IndexByte("\b\f\n\r\t", c) >= 0:
			b.WriteString(`\` + string("bfnrt"[strings.IndexByte("\b\f\n\r\t", c)]))
		case c < 32:
			fmt.Fprintf(&b, `\u%04x`, c)
		default:
			b.WriteByte(c)
		}
	}
	return `"` + b.String() + `"`
}

// request and notice are bodies; without params there are none.
func request(id, method, params string) string {
	return `{"jsonrpc":"2.0","id":` + id + "," + call(method, params)
}

func notice(method, params string) string {
	return `{"jsonrpc":"2.0",` + call(method, params)
}

func call(method, params string) string {
	s := `"method":` + quoted(method)
	if params != "" {
		s += `,"params":` + params
	}
	return s + "}"
}

func didOpen(uri string, version int, text string) string {
	return notice("textDocument/didOpen", fmt.Sprintf(`{"textDocument":{"uri":%s,"version":%d,"text":%s}}`, quoted(uri), version, quoted(text)))
}

func didChange(uri string, version int, changes ...string) string {
	return notice("textDocument/didChange", fmt.Sprintf(`{"textDocument":{"uri":%s,"version":%d},"contentChanges":[%s]}`, quoted(uri), version, strings.Join(changes, ",")))
}

func didClose(uri string) string {
	return notice("textDocument/didClose", `{"textDocument":{"uri":`+quoted(uri)+`}}`)
}

func hover(id, uri string, line, unit int) string {
	return request(id, "textDocument/hover", fmt.Sprintf(`{"textDocument":{"uri":%s},"position":%s}`, quoted(uri), position(line, unit)))
}

func whole(text string) string { return `{"text":` + quoted(text) + `}` }

func ranged(fromLine, fromUnit, toLine, toUnit int, text string) string {
	return `{"range":` + bounds(fromLine, fromUnit, toLine, toUnit) + `,"text":` + quoted(text) + `}`
}

func position(line, unit int) string {
	return fmt.Sprintf(`{"line":%d,"character":%d}`, line, unit)
}

func bounds(fromLine, fromUnit, toLine, toUnit int) string {
	return `{"start":` + position(fromLine, fromUnit) + `,"end":` + position(toLine, toUnit) + `}`
}

// What is sent back.

func result(id, value string) string {
	return `{"jsonrpc":"2.0","id":` + id + `,"result":` + value + `}`
}

// fault is an error with the message of its code.
func fault(id string, code int) string {
	message := map[int]string{
		-32700: "parse error", -32600: "invalid request", -32601: "unknown method",
		-32602: "invalid parameters", -32002: "not initialized",
	}[code]
	return fmt.Sprintf(`{"jsonrpc":"2.0","id":%s,"error":{"code":%d,"message":"%s"}}`, id, code, message)
}

const capabilities = `{"capabilities":{"textDocumentSync":2,"hoverProvider":true}}`

func published(uri string, version int, diags ...string) string {
	return notice("textDocument/publishDiagnostics", fmt.Sprintf(`{"uri":%s,"version":%d,"diagnostics":[%s]}`, quoted(uri), version, strings.Join(diags, ",")))
}

func cleared(uri string) string {
	return notice("textDocument/publishDiagnostics", `{"uri":`+quoted(uri)+`,"diagnostics":[]}`)
}

// diag is one from a position on, up to another one.
func diag(within string, code int, message string) string {
	return fmt.Sprintf(`{"range":%s,"severity":1,"code":%d,"source":"whetstone","message":"%s"}`, within, code, message)
}

func hovered(contents, within string) string {
	return `{"contents":` + quoted(contents) + `,"range":` + within + `}`
}

func short(s string) string {
	if len(s) > 600 {
		return s[:300] + " .. " + s[len(s)-300:]
	}
	return s
}

// says: what a server is told, and what it sends back (nothing, if that is empty).
type says struct{ told, sent string }

// talks: a server answers this, turn by turn.
func talks(t *testing.T, s *session.Server, turns ...says) {
	t.Helper()
	for i, x := range turns {
		want := ""
		if x.sent != "" {
			want = framed(x.sent)
		}
		if got := string(s.Feed([]byte(framed(x.told)))); got != want {
			t.Errorf("%d: %s\n  sends %s\n  not   %s", i, short(x.told), short(got), short(want))
		}
	}
}

var greets = says{request("0", "initialize", "{}"), result("0", capabilities)}

// awake is a server that was greeted, with these texts open: uris a, b, ..
func awake(t *testing.T, texts ...string) *session.Server {
	t.Helper()
	s := session.New()
	talks(t, s, greets)
	for i, text := range texts {
		s.Feed([]byte(framed(didOpen(string(rune('a'+i)), 1, text))))
	}
	if len(s.Open()) != len(texts) {
		t.Fatal("open:", s.Open())
	}
	return s
}

// textIs: a document that is open has these bytes.
func textIs(t *testing.T, s *session.Server, uri, want string) {
	t.Helper()
	if got, there := s.Text(uri); string(got) != want || !there {
		t.Errorf("%q is %q, %t, not %q", uri, short(string(got)), there, short(want))
	}
}
