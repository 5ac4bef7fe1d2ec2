package frame_test

import (
	"math/rand"
	"runtime"
	"strings"
	"testing"

	"whetstone/frame"
)

func TestNilReader(t *testing.T) {
	var r *frame.Reader
	for _, s := range []string{"", "x\r\n", "Content-Length: 1\r\n\r\na"} {
		if l := r.Feed([]byte(s)); len(l) != 0 {
			t.Error("a nil reader reads", l)
		}
		if r.Over() {
			t.Error("a nil reader is over")
		}
	}
}

func TestNewReaderIsNotOver(t *testing.T) {
	r := frame.New()
	if r == nil || r.Over() {
		t.Fatal("a reader at a stream's beginning", r)
	}
	for _, b := range [][]byte{nil, {}} {
		if l := r.Feed(b); len(l) != 0 || r.Over() {
			t.Error("a piece without a byte", l)
		}
	}
	holds(t, "behind pieces without a byte", r.Feed([]byte("Content-Length: 1\r\n\r\na")), []event{{0, frame.Body, "a"}})
}

// TestOverStaysSo: behind a broken header nothing is read.
func TestOverStaysSo(t *testing.T) {
	r := frame.New()
	r.Feed([]byte("\n"))
	for _, s := range []string{"", "\n", "Content-Length: 1\r\n\r\na", "x\r\n", strings.Repeat("x", 5000), "Content-Length: 99999999\r\n\r\n"} {
		if l := r.Feed([]byte(s)); len(l) != 0 || !r.Over() {
			t.Errorf("%s is read behind a broken header: %v", short(s), l)
		}
	}
}

// TestReadersAreApart: what one is fed is nothing to another.
func TestReadersAreApart(t *testing.T) {
	a, b := frame.New(), frame.New()
	a.Feed([]byte("Content-Length: 3\r\n\r\na"))
	b.Feed([]byte("\n"))
	holds(t, "the one", a.Feed([]byte("bc")), []event{{0, frame.Body, "abc"}})
	if a.Over() || !b.Over() || frame.New().Over() {
		t.Error("Over", a.Over(), b.Over())
	}
}

// TestPiecesAreNotChangedOrKept: each piece stands in one room, which is
// written over as soon as it is read.
func TestPiecesAreNotChangedOrKept(t *testing.T) {
	source := rand.New(rand.NewSource(8))
	room := make([]byte, 64)
	for range 200 {
		s := someMessage(source) + someMessage(source) + "x\r\n"
		want := eventsOf(s)
		r := frame.New()
		for from := 0; from < len(s); {
			to := min(from+1+source.Intn(20), len(s))
			for i := range room {
				room[i] = '#'
			}
			copy(room, s[from:to])
			got := r.Feed(room[:to-from])
			if string(room) != s[from:to]+strings.Repeat("#", len(room)-to+from) {
				t.Fatalf("Feed changes what it is given, of %q", s)
			}
			clear(room)
			holds(t, short(s), got, within(want, from, to))
			from = to
		}
	}
}

// TestAnswersAreNewMemory: what becomes of one body is nothing to another,
// nor to what the reader still holds.
func TestAnswersAreNewMemory(t *testing.T) {
	source := rand.New(rand.NewSource(9))
	for range 200 {
		var s string
		for range 4 {
			s += someMessage(source)
		}
		want := eventsOf(s)
		r := frame.New()
		cut := source.Intn(len(s) + 1)
		first := r.Feed([]byte(s[:cut]))
		for i := range first {
			holds(t, short(s), first[i:], within(want, 0, cut)[i:])
			scribble(first[i].Body)
		}
		clear(first[:cap(first)])
		holds(t, short(s), r.Feed([]byte(s[cut:])), within(want, cut, len(s)))
	}
}

// scribble writes over a list, and over the room behind it.
func scribble(b []byte) {
	b = b[:cap(b)]
	for i := range b {
		b[i] = '#'
	}
}

func TestWriteIsNewMemory(t *testing.T) {
	room := []byte("body and more")
	got := frame.Write(room[:4])
	if string(room) != "body and more" {
		t.Error("Write changes what it is given")
	}
	clear(room)
	if string(got) != "Content-Length: 4\r\n\r\nbody" {
		t.Errorf("Write keeps what it is given: %q", got)
	}
	scribble(got)
	if string(frame.Write([]byte("body"))) != "Content-Length: 4\r\n\r\nbody" || string(room) != strings.Repeat("\x00", 13) {
		t.Error("what Write answers is shared")
	}
}

// TestBodiesGrowWithWhatComes: a header's word alone takes no room.
func TestBodiesGrowWithWhatComes(t *testing.T) {
	const readers = 50
	header := []byte("Content-Length: 16777216\r\n\r\nx")
	var ahead, behind runtime.MemStats
	runtime.ReadMemStats(&ahead)
	for range readers {
		frame.New().Feed(header)
	}
	runtime.ReadMemStats(&behind)
	if each := (behind.TotalAlloc - ahead.TotalAlloc) / readers; each > 1<<16 {
		t.Error("bytes that a header's word takes:", each)
	}
}
