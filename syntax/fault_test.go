package syntax

import (
	"testing"

	"whetstone/api"
)

// TestCaughtLetsOthersGoOn: what isn't a fault of an item isn't told as one.
func TestCaughtLetsOthersGoOn(t *testing.T) {
	defer func() {
		if x := recover(); x != "another" {
			t.Error("what went on is", x)
		}
	}()
	own := fault{api.Span{From: 3, To: 4}, api.ErrForm}
	if f := caught(own); f != own {
		t.Error("caught of a fault", f)
	}
	caught("another")
	t.Error("caught comes back")
}

// TestDeepIsPutBack: by the closure that is deferred, also where a part gives
// up.
func TestDeepIsPutBack(t *testing.T) {
	r := &reader{}
	func() {
		defer func() { recover() }()
		defer r.deeper()()
		defer r.deeper()()
		if r.deep != 2 {
			t.Error("two that began", r.deep)
		}
		panic(fault{})
	}()
	if r.deep != 0 {
		t.Error("what was given up is open still", r.deep)
	}
}
