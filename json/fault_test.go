package json

import (
	"testing"

	"whetstone/api"
)

// TestCaughtLetsOthersGoOn: what isn't a fault of a text isn't told as one.
func TestCaughtLetsOthersGoOn(t *testing.T) {
	defer func() {
		if x := recover(); x != "another" {
			t.Error("what went on is", x)
		}
	}()
	if f := caught(fault{3, api.ErrForm}); f != (fault{3, api.ErrForm}) {
		t.Error("caught of a fault", f)
	}
	caught("another")
	t.Error("caught comes back")
}
