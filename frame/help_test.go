package frame_test

import (
	"math/rand"
	"regexp"
	"strconv"
	"strings"
	"testing"

	"whetstone/api"
	"whetstone/frame"
)

// event is a message, and which of the stream's bytes it comes by.
type event struct {
	at   int
	kind int
	body string
}

var (
	someLine   = regexp.MustCompile(`^[^:]+:`)
	lengthLine = regexp.MustCompile(`^[Cc][Oo][Nn][Tt][Ee][Nn][Tt]-[Ll][Ee][Nn][Gg][Tt][Hh]:`)
	length     = regexp.MustCompile(`^[^:]+:[ \t]*([0-9]{1,10})[ \t]*$`)
)

// headerOf reads the header that s begins with, by the chapter's words: by
// which byte it is whole or broken (-1: by none so far), and the body's length.
func headerOf(s string) (at int, broken bool, bytes int) {
	for at := range len(s) {
		if at >= api.MaxHeader {
			return at, true, 0
		}
		if s[at] != 10 {
			continue
		}
		if at == 0 || s[at-1] != 13 {
			return at, true, 0
		}
		lines := strings.Split(s[:at-1], "\r\n")
		if ends, broken, bytes := linesOf(lines); ends || broken {
			return at, broken, bytes
		}
	}
	return -1, false, 0
}

// linesOf: the last line alone can be empty, since the others were looked at
// when they were the last.
func linesOf(lines []string) (ends, broken bool, bytes int) {
	count := 0
	for _, l := range lines {
		if l == "" {
			return true, count != 1, bytes
		}
		if !someLine.MatchString(l) {
			return false, true, 0
		}
		if lengthLine.MatchString(l) {
			value := length.FindStringSubmatch(l)
			count++
			if count > 1 || value == nil {
				return false, true, 0
			}
			bytes, _ = strconv.Atoi(value[1])
		}
	}
	return false, false, 0
}

// eventsOf are all messages of a whole stream.
func eventsOf(s string) []event {
	var all []event
	for begin := 0; begin < len(s); {
		at, broken, bytes := headerOf(s[begin:])
		if at < 0 {
			break
		}
		if broken {
			return append(all, event{begin + at, frame.Broken, ""})
		}
		body := begin + at + 1
		begin = body + bytes
		if bytes > api.MaxBody {
			all = append(all, event{body - 1, frame.TooLong, ""})
		} else if begin <= len(s) {
			all = append(all, event{begin - 1, frame.Body, s[body:begin]})
		}
	}
	return all
}

// within are the events of the bytes from from on, up to to.
func within(all []event, from, to int) []event {
	var some []event
	for _, e := range all {
		if from <= e.at && e.at < to {
			some = append(some, e)
		}
	}
	return some
}

func isBroken(all []event, to int) bool {
	for _, e := range within(all, 0, to) {
		if e.kind == frame.Broken {
			return true
		}
	}
	return false
}

func short(s string) string {
	if len(s) > 200 {
		return strconv.Quote(s[:90]) + ".." + strconv.Quote(s[len(s)-90:])
	}
	return strconv.Quote(s)
}

// holds: are these the messages of the events?
func holds(t *testing.T, what string, got []frame.Message, want []event) {
	t.Helper()
	if len(got) != len(want) {
		t.Fatalf("%s: %d messages, not %d", what, len(got), len(want))
	}
	for i, m := range got {
		if m.Kind != want[i].kind || string(m.Body) != want[i].body {
			t.Fatalf("%s: message %d is %d %s, not %d %s", what, i, m.Kind, short(string(m.Body)), want[i].kind, short(want[i].body))
		}
	}
}

// reads feeds s, cut at these bytes, to a reader at a stream's beginning.
func reads(t *testing.T, s string, want []event, cuts ...int) {
	t.Helper()
	r := frame.New()
	from := 0
	for _, to := range append(cuts, len(s)) {
		what := short(s) + " up to " + strconv.Itoa(to)
		holds(t, what, r.Feed([]byte(s[from:to])), within(want, from, to))
		if r.Over() != isBroken(want, to) {
			t.Fatalf("%s: Over is %t", what, r.Over())
		}
		from = to
	}
}

// readsAnyhow feeds s whole, byte by byte, and in pieces of a fixed source.
func readsAnyhow(t *testing.T, source *rand.Rand, s string) {
	t.Helper()
	want := eventsOf(s)
	reads(t, s, want)
	if len(s) < 10000 {
		reads(t, s, want, everyByte(s)...)
	}
	for range 4 {
		reads(t, s, want, somePieces(source, s)...)
	}
}

func everyByte(s string) []int {
	var cuts []int
	for i := range len(s) {
		cuts = append(cuts, i)
	}
	return cuts
}

// somePieces has empty pieces among the others.
func somePieces(source *rand.Rand, s string) []int {
	var cuts []int
	most := 1 + source.Intn(len(s)/2+2)
	for at := 0; at <= len(s); at += source.Intn(most + 1) {
		cuts = append(cuts, at)
		if len(cuts) > 1000 {
			break
		}
	}
	return cuts
}

func one(source *rand.Rand, of ...string) string {
	return of[source.Intn(len(of))]
}

// someMessage is a whole message, its header written in one of many ways.
func someMessage(source *rand.Rand) string {
	body := someBytes(source, 12)
	name := one(source, "Content-Length", "content-length", "CONTENT-LENGTH", "cOnTeNt-LeNgTh")
	blank := func() string { return one(source, "", " ", "\t", " \t ") }
	digits := one(source, "", "0", "000") + strconv.Itoa(len(body))
	header := name + ":" + blank() + digits + blank() + "\r\n"
	for range source.Intn(3) {
		if l := otherLine(source); source.Intn(2) == 0 {
			header += l
		} else {
			header = l + header
		}
	}
	return header + "\r\n" + body
}

// otherLine is a line that says nothing.
func otherLine(source *rand.Rand) string {
	return one(source, "a:", "Content-Type: x", "Content-Length : 9", " Content-Length:9", "Content-Lengt:3", "Content-Lengthy:3", "x:y:z", "a\rb:\r", "\x00\xff:\x80", "\r:", "Content-Length\r:4", "a: Content-Length: 7", "b::") + "\r\n"
}

func someBytes(source *rand.Rand, most int) string {
	b := make([]byte, source.Intn(most+1))
	for i := range b {
		b[i] = one(source, "\r", "\n", ":", "C", "0", "\x00", "\xff", "a")[0]
	}
	return string(b)
}
