package frame_test

import (
	"math/rand"
	"strconv"
	"strings"
	"testing"

	"whetstone/api"
	"whetstone/frame"
)

func TestExamples(t *testing.T) {
	r := frame.New()
	for _, s := range []string{"content", "-length: 2\r", "\n\r\na"} {
		if l := r.Feed([]byte(s)); len(l) != 0 {
			t.Error("too early", s, l)
		}
	}
	holds(t, "the last piece", r.Feed([]byte("b")), []event{{0, frame.Body, "ab"}})
	if r.Over() {
		t.Error("nothing was broken")
	}
	holds(t, "no header", r.Feed([]byte("x\r\n")), []event{{0, frame.Broken, ""}})
	if !r.Over() {
		t.Error("x and a line's end is no header")
	}
}

func TestKinds(t *testing.T) {
	if frame.Body != 1 || frame.TooLong != 2 || frame.Broken != 3 {
		t.Error("kinds", frame.Body, frame.TooLong, frame.Broken)
	}
}

// TestHeaders: s is told to be a whole header with that body's length.
func TestHeaders(t *testing.T) {
	for s, n := range map[string]int{
		"Content-Length:0\r\n\r\n": 0, "Content-Length: 0\r\n\r\n": 0, "Content-Length:0000000000\r\n\r\n": 0,
		"Content-Length: 3\r\n\r\n": 3, "content-length:3\r\n\r\n": 3, "CONTENT-LENGTH:3\r\n\r\n": 3, "cONTENT-lENGTH: 3\r\n\r\n": 3,
		"Content-Length: \t 3 \t \r\n\r\n": 3, "Content-Length:\t3\t\r\n\r\n": 3, "Content-Length:0000000003\r\n\r\n": 3, "Content-Length: 12\r\n\r\n": 12,
		"a:\r\nContent-Length: 3\r\n\r\n": 3, "Content-Length: 3\r\nContent-Type: y\r\n\r\n": 3, "a:b\r\nc::d\r\nContent-Length:3\r\ne:f\r\ne:f\r\n\r\n": 3,
		"Content-Length : 9\r\nContent-Length:3\r\n\r\n": 3, " Content-Length:9\r\nContent-Length:3\r\n\r\n": 3, "Content-Length:3\r\nContent-Lengthy:9\r\n\r\n": 3,
		"Content-Length:3\r\nContent-Lengt:x\r\n\r\n": 3, "Content_Length:8\r\nContent-Length:3\r\n\r\n": 3, "Content-Length\r:8\r\nContent-Length:3\r\n\r\n": 3,
		"a\rb:\rc\r\nContent-Length:3\r\n\r\n": 3, "\r:\r\r\nContent-Length:3\r\n\r\n": 3, "a:\r\r\nContent-Length:3\r\n\r\n": 3, "\x00:\xff\r\nContent-Length:3\r\n\r\n": 3,
		"\xe2\x82\xac:\r\nContent-Length:3\r\n\r\n": 3, " :\r\nContent-Length:3\r\n\r\n": 3, "a: Content-Length: 9\r\nContent-Length:3\r\n\r\n": 3,
	} {
		body := strings.Repeat("\r\n", 6)[:n]
		want := []event{{len(s) + n - 1, frame.Body, body}}
		reads(t, s+body, want, everyByte(s+body)...)
		reads(t, s+body, want)
		if n > 0 {
			reads(t, (s + body)[:len(s)+n-1], nil, len(s))
		}
	}
}

// TestBrokenHeaders: s is broken by its last byte, and by none ahead of it.
func TestBrokenHeaders(t *testing.T) {
	for _, s := range []string{
		"\n", "a\n", "a:\n", "\r\n", "\r\r\n", "Content-Length: 3\n", "Content-Length: 3\r\n\n", "Content-Length: 3\r\n\r\r\n", "Content-Length: 3\r\nx\n", "a\r \n", "a:b\r\n\n",
		"x\r\n", "x y\r\n", " \r\n", ":\r\n", ":x\r\n", "::\r\n", ":a:b\r\n", ":Content-Length: 3\r\n", "Content-Length\r\n", "Content-Length 3\r\n", "Content-Length: 3\r\nx\r\n", "Content-Length: 3\r\n:\r\n",
		"Content-Length:\r\n", "Content-Length: \t \r\n", "Content-Length: x\r\n", "Content-Length: 3x\r\n", "Content-Length: x3\r\n", "Content-Length: 1 2\r\n", "Content-Length: 1\t2\r\n", "Content-Length: -1\r\n", "Content-Length: -0\r\n",
		"Content-Length: +1\r\n", "Content-Length: 0x3\r\n", "Content-Length: 3.0\r\n", "Content-Length: 3,\r\n", "Content-Length: 3;\r\n", "Content-Length:: 3\r\n", "Content-Length: /\r\n", "Content-Length: :\r\n",
		"Content-Length: 3\r\r\n", "Content-Length: \r3\r\n", "Content-Length: 3\v\r\n", "Content-Length: \f3\r\n", "Content-Length: \xc2\xa03\r\n", "Content-Length: \xd9\xa3\r\n", "Content-Length: 3\x00\r\n",
		"Content-Length: 00000000000\r\n", "Content-Length: 00000000003\r\n", "Content-Length: 12345678901\r\n", "content-length: 18446744073709551619\r\n",
		"Content-Length: 3\r\nContent-Length: 3\r\n", "Content-Length: 0\r\ncontent-length: 4\r\n", "Content-Length: 3\r\na:\r\nCONTENT-LENGTH: x\r\n",
		"a:\r\n\r\n", "a:b\r\nc:d\r\n\r\n", "Content-Length : 3\r\n\r\n", " Content-Length: 3\r\n\r\n", "Content-Lengt: 3\r\n\r\n", "Content-Lengthy: 3\r\n\r\n", "\xef\xbb\xbfContent-Length: 3\r\n\r\n", "Content\x0dLength: 3\r\n\r\n", "CONTENT\x0dlENGTH: 3\r\n\r\n",
	} {
		for _, ahead := range []string{"", "Content-Length: 2\r\n\r\n:\n", "content-length:0\r\n\r\n"} {
			want := append(eventsOf(ahead), event{len(ahead+s) - 1, frame.Broken, ""})
			reads(t, ahead+s, want)
			reads(t, ahead+s, want, everyByte(ahead+s)...)
			reads(t, ahead+s+"Content-Length: 1\r\n\r\nxContent-Length: 0\r\n\r\n", want, len(ahead), len(ahead+s))
		}
	}
}

// longHeader has so many bytes, and ends; its body has none.
func longHeader(n int) string {
	const ahead, behind = "Content-Length: 0\r\na:", "\r\n\r\n"
	return ahead + strings.Repeat("x", n-len(ahead+behind)) + behind
}

func TestLongestHeader(t *testing.T) {
	s := longHeader(api.MaxHeader)
	reads(t, s+s, []event{{4095, frame.Body, ""}, {8191, frame.Body, ""}}, 1000, 4095, 4096, 8191)
	s = longHeader(api.MaxHeader + 1)
	reads(t, s, []event{{4096, frame.Broken, ""}}, 4095, 4096)
	for _, s := range []string{strings.Repeat("x", 4096), strings.Repeat("a:\r\n", 1024), strings.Repeat("\r", 4096), longHeader(5000)[:4096], strings.Repeat("x:", 2047) + "\r\n"} {
		reads(t, s, nil)
		for _, behind := range []string{"x", "\r", "\n", "\r\n", ":", "\x00"} {
			reads(t, s+behind, []event{{4096, frame.Broken, ""}})
			reads(t, s+behind, []event{{4096, frame.Broken, ""}}, everyByte(s+behind)...)
		}
	}
	reads(t, strings.Repeat("x", 4095)+"\n", []event{{4095, frame.Broken, ""}}, 4095)
	s = "Content-Length: 5000\r\n\r\n"
	body := strings.Repeat("\n", 5000)
	reads(t, s+body+s+body, []event{{len(s) + 4999, frame.Body, body}, {2*len(s) + 9999, frame.Body, body}}, 4095, 4096, 4097)
}

func TestLongestBody(t *testing.T) {
	s := "Content-Length: 16777216\r\n\r\n"
	body := strings.Repeat("ab\r\n", api.MaxBody/4)
	want := []event{{len(s+body) - 1, frame.Body, body}}
	reads(t, s+body, want)
	reads(t, s+body, want, len(s), len(s)+1, len(s)+1000000, len(s+body)-1)
}

// TestTooLong: the message comes with its header, and so many bytes behind it
// are nothing, whatever they are.
func TestTooLong(t *testing.T) {
	const next = "Content-Length: 1\r\n\r\nz"
	for _, n := range []int{16777217, 16777218, 20000000, 99999999, 4294967296, 9999999999} {
		header := "Content-Length: " + strconv.Itoa(n) + "\r\n\r\n"
		r := frame.New()
		holds(t, header, r.Feed([]byte(header)), []event{{0, frame.TooLong, ""}})
		piece := []byte(strings.Repeat("Content-Length: 0\r\n\r\n\n", 100000))
		for left := n - 3; left > 0; {
			part := piece[:min(left, len(piece))]
			holds(t, "within what is skipped", r.Feed(part), nil)
			left -= len(part)
		}
		holds(t, "the skipped bytes' end", r.Feed([]byte("\r\n\n"+next)), []event{{0, frame.Body, "z"}})
		if r.Over() {
			t.Error("what is skipped breaks nothing")
		}
	}
}

// TestTooLongInOnePiece: header, skipped bytes and the next message at once.
func TestTooLongInOnePiece(t *testing.T) {
	s := "a:b\r\nContent-Length: 16777217\r\n\r\n"
	skipped := strings.Repeat("\n", api.MaxBody+1)
	whole := s + skipped + "Content-Length: 2\r\n\r\n:)" + "\n"
	want := []event{{len(s) - 1, frame.TooLong, ""}, {len(whole) - 2, frame.Body, ":)"}, {len(whole) - 1, frame.Broken, ""}}
	reads(t, whole, want)
	reads(t, whole, want, len(s)-1, len(s), len(s)+1, len(s+skipped)-1, len(s+skipped), len(whole)-2, len(whole)-1)
}

// TestPieces: in whatever pieces a stream comes, the messages are the same.
func TestPieces(t *testing.T) {
	source := rand.New(rand.NewSource(5))
	for range 400 {
		var s string
		for range source.Intn(5) {
			s += someMessage(source)
		}
		switch source.Intn(3) {
		case 0:
			s += someBytes(source, 9)
		case 1:
			s = s[:source.Intn(len(s)+1)]
		}
		readsAnyhow(t, source, s)
	}
}

// TestAllCuts: every way to cut a stream twice.
func TestAllCuts(t *testing.T) {
	s := "A:\r\ncontent-length:2\r\n\r\n\r\nContent-Length: 0\r\n\r\nContent-Length: 1\r\n\r\nx\r\n\r\n"
	want := eventsOf(s)
	if len(want) != 4 {
		t.Fatal("four messages, the last of them broken", want)
	}
	for i := range len(s) + 1 {
		for j := i; j <= len(s); j++ {
			reads(t, s, want, i, j)
		}
	}
}

// TestAnyBytes: streams that are broken somewhere, at the byte that is told.
func TestAnyBytes(t *testing.T) {
	source := rand.New(rand.NewSource(6))
	for range 3000 {
		s := []byte(someMessage(source) + someMessage(source))
		for range 1 + source.Intn(3) {
			at := source.Intn(len(s))
			switch source.Intn(3) {
			case 0:
				s[at] = one(source, "\r", "\n", ":", " ", "9", "x")[0]
			case 1:
				s = append(s[:at], s[at+1:]...)
			default:
				s = append(s[:at], append([]byte(one(source, "\r", "\n", ":", " ", "0", "\r\n")), s[at:]...)...)
			}
		}
		readsAnyhow(t, source, string(s))
	}
}

func TestWrite(t *testing.T) {
	for body, want := range map[string]string{
		"": "Content-Length: 0\r\n\r\n", "ab": "Content-Length: 2\r\n\r\nab", "\r\n": "Content-Length: 2\r\n\r\n\r\n", "\xff\x00": "Content-Length: 2\r\n\r\n\xff\x00", "{\"a\":\"\u20ac\"}": "Content-Length: 11\r\n\r\n{\"a\":\"\u20ac\"}",
	} {
		if got := string(frame.Write([]byte(body))); got != want {
			t.Errorf("Write(%q) = %q", body, got)
		}
	}
	if got := string(frame.Write(nil)); got != "Content-Length: 0\r\n\r\n" {
		t.Errorf("Write of nil: %q", got)
	}
	for _, n := range []int{9, 10, 99, 100, 12345, 1 << 20} {
		want := "Content-Length: " + strconv.Itoa(n) + "\r\n\r\n" + strings.Repeat("w", n)
		if got := string(frame.Write([]byte(strings.Repeat("w", n)))); got != want {
			t.Errorf("Write of %d bytes: %s", n, short(got))
		}
	}
}

// TestWrittenIsRead: whatever stands ahead, if that ends with a message.
func TestWrittenIsRead(t *testing.T) {
	source := rand.New(rand.NewSource(7))
	for range 300 {
		ahead := ""
		for range source.Intn(4) {
			ahead += someMessage(source)
		}
		body := someBytes(source, 40)
		s := ahead + string(frame.Write([]byte(body)))
		want := append(eventsOf(ahead), event{len(s) - 1, frame.Body, body})
		reads(t, s, want)
		reads(t, s, want, somePieces(source, s)...)
	}
	for _, n := range []int{0, 1, 9, 10, 4095, 4096, 4097, 65536, api.MaxBody - 1, api.MaxBody} {
		body := strings.Repeat("\n", n)
		s := string(frame.Write([]byte(body)))
		reads(t, s+s, []event{{len(s) - 1, frame.Body, body}, {2*len(s) - 1, frame.Body, body}}, len(s)/2)
	}
	s := string(frame.Write([]byte(strings.Repeat("\n", api.MaxBody+1))))
	reads(t, s+string(frame.Write([]byte("x"))), []event{{len("Content-Length: 16777217\r\n\r\n") - 1, frame.TooLong, ""}, {len(s) + 21, frame.Body, "x"}}, 50)
}
