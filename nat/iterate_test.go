package nat

import (
	"slices"
	"testing"
)

// The way that the chapter asks for: limbs from the highest on, left at any
// place and gone through again.
func TestFromTop(t *testing.T) {
	limbs := fromTop([]uint32{10, 11, 12})
	for range 2 {
		var places []int
		var seen []uint32
		for i, limb := range limbs {
			places, seen = append(places, i), append(seen, limb)
		}
		if !slices.Equal(places, []int{2, 1, 0}) || !slices.Equal(seen, []uint32{12, 11, 10}) {
			t.Errorf("fromTop goes through %v, %v", places, seen)
		}
	}
	steps := 0
	for i := range limbs {
		steps++
		if i == 1 {
			break
		}
	}
	if steps != 2 {
		t.Errorf("fromTop isn't left: %d steps", steps)
	}
	for range fromTop(nil) {
		t.Error("fromTop goes through limbs of an empty list")
	}
}
