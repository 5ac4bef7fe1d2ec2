package base

import (
	"testing"

	"whetstone/api"
)

// TestCaughtLetsOthersGoOn: what isn't a fault of an item isn't told as one.
func TestCaughtLetsOthersGoOn(t *testing.T) {
	defer func() {
		if x := recover(); x != "another" {
			t.Error("what went on is", x)
		}
	}()
	own := Fault{Item: 2, Span: api.Span{From: 3, To: 4}, E: api.ErrName}
	if f := caught(own); f != own {
		t.Error("caught of a fault", f)
	}
	caught("another")
	t.Error("caught comes back")
}
