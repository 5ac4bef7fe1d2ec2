package session_test

import (
	"bytes"
	"encoding/json"
	"fmt"
	"math/rand"
	"reflect"
	"strings"
	"testing"

	"whetstone/engine"
	"whetstone/frame"
	"whetstone/session"
)

// fits: all that a server tells of itself is as the model has it.
func fits(t *testing.T, s *session.Server, m *model) {
	t.Helper()
	var names []string
	var l []*engine.Engine
	for _, d := range m.docs {
		names = append(names, d.uri)
		l = append(l, d.engine)
		textIs(t, s, d.uri, d.text)
	}
	opens(t, s, names...)
	sizesAre(t, s, l...)
	if s.Over() != (m.stand == "gone") {
		t.Error("over:", s.Over())
	}
	if got := s.Stats(); !reflect.DeepEqual(got, m.stats) {
		t.Error(got, "not", m.stats)
	}
}

// TestDrawn is P22.1: whatever an editor sends, it is answered as the chapter's words,
// written once more, have it.
func TestDrawn(t *testing.T) {
	var sent [5]int // nothing; results; faults; published; cleared
	for seed := range int64(250) {
		s, c := session.New(), newClient(seed)
		for range 60 {
			body := c.next()
			want := c.hears(body)
			talks(t, s, says{body, want})
			fits(t, s, c.model)
			if t.Failed() {
				t.Fatal("seed", seed)
			}
			switch {
			case want == "":
				sent[0]++
			case strings.Contains(want, `"result":`):
				sent[1]++
			case strings.Contains(want, `"error":`):
				sent[2]++
			case strings.Contains(want, `"version":`):
				sent[3]++
			default:
				sent[4]++
			}
		}
	}
	for i, n := range sent {
		if n < 200 {
			t.Error("too few of a kind are tried:", i, sent)
		}
	}
}

// stream is what a drawn client sends in all, and what it is answered: behind so many
// bytes, so much.
func stream(seed int64, count int) (in string, out []string, ends []int) {
	c := newClient(seed)
	for range count {
		body := c.next()
		in += strings.Replace(framed(body), "\r\n", c.one("\r\n", "\r\n", "\r\nx: y\r\n"), 1)
		ends = append(ends, len(in))
		answer := ""
		if want := c.hears(body); want != "" {
			answer = framed(want)
		}
		out = append(out, answer)
	}
	if c.rarely(3) {
		in += c.one("x\r\n", "\n", "Content-Length: -1\r\n")
		ends = append(ends, len(in))
		if c.stand != "gone" {
			out = append(out, framed(fault("null", -32700)))
			c.stand = "gone"
		} else {
			out = append(out, "")
		}
		in += framed(request("1", "m", ""))
		ends = append(ends, len(in))
		out = append(out, "")
	}
	return in, out, ends
}

// due: what is sent by the time that so many bytes have come.
func due(out []string, ends []int, came int) string {
	all := ""
	for i, end := range ends {
		if end <= came {
			all += out[i]
		}
	}
	return all
}

// TestPieces is P2 and P22.2: in whatever pieces the bytes come, the same is sent, each
// message with the piece that has the last byte of what it answers.
func TestPieces(t *testing.T) {
	source := rand.New(rand.NewSource(1))
	for seed := range int64(60) {
		in, out, ends := stream(1000+seed, 1+source.Intn(25))
		for _, most := range []int{1, 2, 7, 100, 1000, len(in)} {
			s := session.New()
			got := ""
			for from := 0; from < len(in); {
				to := min(len(in), from+1+source.Intn(most))
				if most == len(in) {
					to = len(in)
				}
				got += string(s.Feed([]byte(in[from:to])))
				if want := due(out, ends, to); got != want {
					t.Fatalf("up to %d of %q\n  sends %s\n  not   %s", to, in, got, want)
				}
				if source.Intn(9) == 0 && len(s.Feed(nil))+len(s.Feed([]byte{})) != 0 {
					t.Fatal("a piece without a byte is answered")
				}
				from = to
			}
		}
	}
}

// TestAllCuts: every way to cut a stream once.
func TestAllCuts(t *testing.T) {
	in := framed(greets.told) + framed(didOpen("a", 1, zero)) + framed(hover("1", "a", 0, 3)) + framed(didChange("a", 2, ranged(0, 20, 0, 21, "1"))) + framed("x") + framed(didClose("a")) + "x\r\n" + framed(request("1", "m", ""))
	want := string(session.New().Feed([]byte(in)))
	if strings.Count(want, "Content-Length") != 7 {
		t.Fatal(want)
	}
	for i := range len(in) + 1 {
		s := session.New()
		if got := string(s.Feed([]byte(in[:i]))) + string(s.Feed([]byte(in[i:]))); got != want || !s.Over() {
			t.Fatalf("cut at %d: %s", i, got)
		}
	}
}

// TestHistory is P3 and P22.3: what is published of a document, and what a hover answers,
// is what a new server says that is given its text at once.
func TestHistory(t *testing.T) {
	for seed := range int64(60) {
		s, c := session.New(), newClient(2000+seed)
		for range 40 {
			body := c.next()
			out := string(s.Feed([]byte(framed(body))))
			c.hears(body)
			if c.stand != "awake" || !strings.Contains(out, `"version":`) {
				continue
			}
			for _, d := range c.docs {
				anew := awake(t)
				first := string(anew.Feed([]byte(framed(didOpen(d.uri, d.version, d.text)))))
				if strings.Contains(out, `"uri":`+quoted(d.uri)+`,`) && out != first {
					t.Fatalf("%q\n  sends %s\n  anew  %s", d.text, out, first)
				}
				for line := range rows(d.text) {
					for unit := range 12 {
						ask := []byte(framed(hover("1", d.uri, line, unit)))
						if got, want := string(s.Feed(ask)), string(anew.Feed(ask)); got != want {
							t.Fatalf("%q at %d, %d\n  sends %s\n  anew  %s", d.text, line, unit, got, want)
						}
					}
				}
			}
		}
	}
}

// wellSent: these are messages, each of them a value, and nothing behind them.
func wellSent(t *testing.T, out []byte) {
	t.Helper()
	r := frame.New()
	l := r.Feed(append(bytes.Clone(out), framed(`"end"`)...))
	if r.Over() || len(l) == 0 || string(l[len(l)-1].Body) != `"end"` {
		t.Fatalf("no messages: %q", out)
	}
	for _, m := range l {
		if !json.Valid(m.Body) {
			t.Fatalf("no value: %q", m.Body)
		}
	}
}

// TestAnyBytes is P6 and P22.4: whatever comes, it is read, and what is sent is messages.
// When all documents are closed, nothing is kept of them.
func TestAnyBytes(t *testing.T) {
	source := rand.New(rand.NewSource(3))
	over := 0
	for seed := range int64(400) {
		in, _, _ := stream(3000+seed, 1+source.Intn(12))
		b := []byte(in)
		for range source.Intn(6) {
			at := source.Intn(len(b))
			b[at] = []byte("\r\n:0x\xff{}[],\"C")[source.Intn(13)]
		}
		if source.Intn(10) == 0 {
			source.Read(b)
		}
		s := session.New()
		cut := source.Intn(len(b) + 1)
		wellSent(t, s.Feed(b[:cut]))
		wellSent(t, s.Feed(b[cut:]))
		if s.Over() {
			over++
			if len(s.Feed([]byte(in))) != 0 || !s.Over() {
				t.Fatal("it is over, and answers")
			}
		}
	}
	if over < 50 || over > 350 {
		t.Error("over:", over)
	}
}

// TestClosed is the other half of P22.4, of whatever was open.
func TestClosed(t *testing.T) {
	for seed := range int64(60) {
		s, c := session.New(), newClient(4000+seed)
		talks(t, s, greets)
		c.stand = "awake"
		for i := range 40 {
			body := c.next()
			if strings.Contains(body, "shutdown") || strings.Contains(body, "exit") {
				continue
			}
			c.hears(body)
			s.Feed([]byte(framed(body)))
			if i%10 < 9 {
				continue
			}
			for _, name := range s.Open() {
				talks(t, s, says{didClose(name), c.hears(didClose(name))})
			}
			if vars, clauses, learned := s.Sizes(); vars+clauses+learned != 0 {
				t.Fatal("kept:", vars, clauses, learned)
			}
			fits(t, s, c.model)
		}
	}
}

// TestBounded: what is kept is no more for many texts than for a few, and documents that
// are closed leave nothing.
func TestBounded(t *testing.T) {
	s := awake(t)
	for i := range 200 {
		name := fmt.Sprint("d", i%7)
		s.Feed([]byte(framed(didOpen(name, i, strings.ReplaceAll(great(5+i%20), ">", fmt.Sprint("> ", i, " +"))))))
		if i%3 == 0 {
			s.Feed([]byte(framed(didClose(name))))
		}
		vars, clauses, learned := s.Sizes()
		if most := len(s.Open()) * 4096; vars > most || clauses > most || learned > len(s.Open())*20000 {
			t.Fatal("kept:", vars, clauses, learned, "of", len(s.Open()))
		}
	}
}
