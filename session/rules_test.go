package session_test

import (
	"reflect"
	"sync"
	"testing"

	"whetstone/engine"
	"whetstone/session"
)

// isNothing: a server tells nothing of itself.
func isNothing(t *testing.T, s *session.Server) {
	t.Helper()
	if s.Over() || len(s.Open()) != 0 {
		t.Error("over, open:", s.Over(), s.Open())
	}
	for _, name := range []string{"", "a"} {
		if b, there := s.Text(name); there || len(b) != 0 {
			t.Error("text:", b)
		}
	}
	if did := s.Stats(); !reflect.DeepEqual(did, engine.Stats{}) {
		t.Error("stats:", did)
	}
	sizesAre(t, s)
}

// TestNil: nothing.
func TestNil(t *testing.T) {
	var s *session.Server
	for range 2 {
		isNothing(t, s)
		all(t, s, "", greets.told, request("1", "m", ""), didOpen("a", 1, zero), "nonsense", notice("exit", ""))
		for _, b := range []string{"", "x\r\n", "Content-Length: 99999999\r\n\r\n"} {
			if out := s.Feed([]byte(b)); len(out) != 0 {
				t.Error(out)
			}
		}
	}
}

// TestNew: nobody has greeted it; nor one that isn't made by New. Each knows by itself.
func TestNew(t *testing.T) {
	var none session.Server
	for _, s := range []*session.Server{session.New(), &none, session.New()} {
		isNothing(t, s)
		if len(s.Feed(nil))+len(s.Feed([]byte{})) != 0 {
			t.Error("a piece without a byte is answered")
		}
		isNothing(t, s)
		talks(t, s, says{request("1", "shutdown", ""), fault("1", -32002)}, greets, says{didOpen("a", 1, zero), published("a", 1, zeroDiag())})
		opens(t, s, "a")
	}
}

// TestPiecesStay: the bytes that are handed in aren't changed, nor kept, nor those behind
// them.
func TestPiecesStay(t *testing.T) {
	for seed := range int64(40) {
		in, out, ends := stream(5000+seed, 20)
		s := session.New()
		got := ""
		room := make([]byte, 0, 64)
		for from := 0; from < len(in); {
			to := min(len(in), from+1+int(seed)%len(in[:min(len(in), 50)]))
			room = append(append(room[:0], in[from:to]...), "room"...)
			got += string(s.Feed(room[:to-from]))
			if string(room) != in[from:to]+"room" {
				t.Fatalf("%q is changed", in[from:to])
			}
			for i := range room {
				room[i] = '#'
			}
			from = to
		}
		if want := due(out, ends, len(in)); got != want {
			t.Fatalf("%q is kept\n  sends %s\n  not   %s", in, got, want)
		}
	}
}

// TestAnswersAreNew: whoever writes over an answer changes nothing that is known, nor
// another answer.
func TestAnswersAreNew(t *testing.T) {
	s := awake(t, fine, zero)
	ask := []byte(framed(hover("1", "a", 0, 3)) + framed(didChange("b", 2)))
	want := string(s.Feed(ask))
	for range 3 {
		out := s.Feed(ask)
		if string(out) != want {
			t.Errorf("%s\n  not %s", out, want)
		}
		room := out[:cap(out)]
		for i := range room {
			room[i] = '#'
		}
		opens(t, s, "a", "b")
		names := s.Open()
		names = append(names[:1], names[:cap(names)]...)
		for i := range names {
			names[i] = "spoilt"
		}
		textIs(t, s, "b", zero)
		b, _ := s.Text("b")
		b = b[:cap(b)]
		for i := range b {
			b[i] = '#'
		}
	}
	opens(t, s, "a", "b")
	textIs(t, s, "b", zero)
	talks(t, s, says{didChange("b", 3, ranged(0, 20, 0, 21, "1")), published("b", 3)})
}

// TestAsking: what is asked of a server beside Feed changes nothing that it sends.
func TestAsking(t *testing.T) {
	for seed := range int64(20) {
		in, out, ends := stream(6000+seed, 20)
		s := session.New()
		got := ""
		from := 0
		for _, to := range ends {
			s.Over()
			s.Stats()
			s.Sizes()
			for _, name := range append(s.Open(), "nobody") {
				s.Text(name)
			}
			got += string(s.Feed([]byte(in[from:to])))
			from = to
		}
		if want := due(out, ends, len(in)); got != want {
			t.Fatalf("%q\n  sends %s\n  not   %s", in, got, want)
		}
	}
}

// TestAtOnce: servers share nothing.
func TestAtOnce(t *testing.T) {
	var wait sync.WaitGroup
	for seed := range int64(24) {
		in, out, ends := stream(7000+seed%12, 40)
		wait.Go(func() {
			if got, want := string(session.New().Feed([]byte(in))), due(out, ends, len(in)); got != want {
				t.Errorf("%q\n  sends %s\n  not   %s", in, got, want)
			}
		})
	}
	wait.Wait()
}
