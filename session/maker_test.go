package session_test

import (
	"fmt"
	"math/rand"
	"slices"
	"strings"
)

// client writes what an editor may send, of a fixed source, mostly right. It knows which
// documents are open, as a model does.
type client struct {
	*rand.Rand
	*model
}

func newClient(seed int64) *client {
	return &client{rand.New(rand.NewSource(seed)), &model{}}
}

func (c *client) one(of ...string) string { return of[c.Intn(len(of))] }

// rarely: once in so many times.
func (c *client) rarely(n int) bool { return c.Intn(n) == 0 }

// next is the next body.
func (c *client) next() string {
	if c.stand == "" && !c.rarely(4) {
		return request(c.id(), "initialize", c.one("", "{}", "[]"))
	}
	body := c.body()
	if c.rarely(9) {
		body = c.spoilt(body)
	}
	return body
}

func (c *client) body() string {
	switch n := c.Intn(40); {
	case n < 8:
		return c.opens()
	case n < 22:
		return c.changes()
	case n < 25:
		return didClose(c.uri())
	case n < 35:
		return hover(c.id(), c.uri(), c.Intn(5)-1, c.Intn(12)-1)
	case n < 37:
		return c.one(request(c.id(), c.method(), c.one("", "{}", "[1]")), notice(c.method(), c.one("", "{}", `{"a":[]}`)))
	case n == 37:
		return c.one("nonsense", "", "[]", "1", `{"id":[]}`, `{"jsonrpc":"2.0","id":1,"result":2}`, `{"jsonrpc":"2.0","id":"r","error":{}}`, `{"jsonrpc":"2.0","id":3}`)
	case n == 38 && c.rarely(8):
		return request(c.id(), "shutdown", "")
	case n == 39 && c.rarely(8):
		return notice("exit", "")
	}
	return c.changes()
}

func (c *client) id() string {
	return c.one("0", "1", "7", "-3", "999999999", `"x"`, `""`, `"a\nb"`)
}

func (c *client) method() string {
	return c.one("m", "initialize", "initialized", "textDocument/hover", "textDocument/didOpen", "textDocument/didChange", "textDocument/didClose", "textDocument/didSave", "$/x", "Exit")
}

// uri is mostly that of a document that is open.
func (c *client) uri() string {
	if len(c.docs) > 0 && !c.rarely(8) {
		return c.docs[c.Intn(len(c.docs))].uri
	}
	return c.one("a", "b", "c", "", "\u20ac \"\n", "file:///d.w")
}

func (c *client) opens() string {
	return didOpen(c.uri(), c.Intn(2000)-999, c.text())
}

func (c *client) changes() string {
	uri := c.uri()
	text := ""
	if d := c.find(uri); d != nil {
		text = d.text
	}
	var l []string
	for range c.Intn(4) {
		l = append(l, c.change(text))
	}
	return didChange(uri, c.Intn(2000)-999, l...)
}

func (c *client) change(text string) string {
	if c.rarely(6) {
		return whole(c.text())
	}
	count := len(rows(text))
	from, to := c.Intn(count+1), c.Intn(count+1)
	if c.Intn(3) > 0 {
		to = from
	}
	fromUnit, toUnit := c.Intn(50)-1, c.Intn(50)-1
	if c.Intn(2) == 0 {
		toUnit = fromUnit + c.Intn(3)
	}
	return ranged(from-c.Intn(2)*c.Intn(2), fromUnit, to, toUnit, c.put())
}

// put is what takes the place of a range.
func (c *client) put() string {
	if c.rarely(5) {
		return c.item()
	}
	return c.one("", "", " ", "1", "0", "x", "\n", "\r\n", "\r", ";", "\u20ac", "\U0001f600", " + x", "// \U0001f600\n", "f", "(", "{v > 0}", "=", "qual", "true")
}

func (c *client) text() string {
	var s strings.Builder
	for range c.Intn(6) {
		s.WriteString(c.item())
		s.WriteString(c.one("", " ", "\n", "\r\n", "\r", "\n// \u20ac\U0001f600 ;\n"))
	}
	return s.String()
}

func (c *client) item() string {
	name := c.one("f", "g", "h", "k")
	return c.one(
		"qual p(a) = a >= 0;", "qual q(a, b) = a < b;", "qual r(a) = a > 0;",
		"fn "+name+"(x: int) -> int = if x <= 0 then 0 else "+name+"(x - 1);",
		"pub fn "+name+"(x: int{v >= 0}) -> int = "+c.one("f", "g", "h")+"(x);",
		"fn "+name+"(x: int) -> int = "+fmt.Sprint(c.Intn(9))+" / x;",
		"fn "+name+"(x: int{v != 0}) -> int{v > 3} = 10 % x;",
		"fn "+name+"(a: arr 3, i: int) -> int = get(a, i);",
		"fn "+name+"() -> bool = assert 1 > "+fmt.Sprint(c.Intn(3))+" in true;",
		"fn "+name+"(b: bool) -> int = b;", "fn "+name+"(", ";", "#\u20ac", "fn "+name+"() -> int = nobody();",
	)
}

// spoilt is a body of which some bytes are others.
func (c *client) spoilt(body string) string {
	parts := []string{`"`, ",", ":", "{", "}", "[", "]", "0", "1.5", "null", `"uri"`, `"x"`, " ", "\\", "\xff", "-", "text", "range"}
	b := []byte(body)
	for range min(len(b), 1+c.Intn(3)) {
		at := c.Intn(len(b))
		to := min(len(b), at+c.Intn(12))
		b = slices.Concat(b[:at], []byte(c.one(parts...)), b[to:])
	}
	return string(b)
}
