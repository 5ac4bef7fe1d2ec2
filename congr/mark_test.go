package congr_test

import (
	"testing"

	"whetstone/api"
)

// The tests of this file are of P13.3: behind a Pop all is as at the Push.

func TestPopWithoutMark(t *testing.T) {
	b := newBoth(t)
	b.pop()
	b.merge(b.node(1), b.node(2), 3)
	want := all(b.g)
	for range 3 {
		if e := b.g.Pop(); e != api.ErrState || all(b.g) != want {
			t.Fatal("Pop without a mark", e)
		}
	}
	b.push()
	b.pop()
	if e := b.g.Pop(); e != api.ErrState || all(b.g) != want {
		t.Fatal("Pop behind the last mark", e)
	}
	b.holds()
}

// Nodes that are taken back are none, and their numbers are given anew.
func TestNodesAreTakenBack(t *testing.T) {
	b := newBoth(t)
	x, y := b.node(1), b.node(2)
	fx := b.node(5, x)
	b.push()
	fy := b.node(5, y)
	b.merge(x, y, 7)
	b.node(5, fy)
	b.pop()
	b.holds()
	if n := b.node(6, y); n != fy {
		t.Error("the next number is", n)
	}
	n := b.node(5, y)
	differ(t, b.g, n, fx)
	b.merge(x, y, 8)
	same(t, b.g, n, fx, 8)
	b.holds()
}

// What was merged ahead of the mark stays, also if it is merged once more behind it.
func TestMergedOnceMoreBehindTheMark(t *testing.T) {
	b := newBoth(t)
	x, y, z := b.node(1), b.node(2), b.node(3)
	fx, fy, fz := b.node(5, x), b.node(5, y), b.node(5, z)
	b.merge(x, y, 4)
	want := all(b.g)
	b.push()
	b.merge(y, x, 1)
	b.merge(fx, fy, 2)
	b.merge(fz, fx, 3)
	b.merge(z, y, 0)
	b.holds()
	b.pop()
	if all(b.g) != want {
		t.Error("behind the Pop", all(b.g))
	}
	same(t, b.g, fx, fy, 4)
	differ(t, b.g, fz, fy)
	b.holds()
}

// Reasons that were turned round behind a mark are told as ahead of it.
func TestReasonsBehindPop(t *testing.T) {
	b := newBoth(t)
	var l []int
	for fn := range 12 {
		l = append(l, b.node(fn))
	}
	for i := range 3 {
		b.merge(l[i], l[i+1], i)
	}
	for i := 4; i < 11; i++ {
		b.merge(l[i], l[i+1], i)
	}
	want := all(b.g)
	for i := range 4 {
		for j := 4; j < 12; j++ {
			b.push()
			b.merge(l[i], l[j], 99)
			b.holds()
			b.push()
			b.merge(l[j], l[0], 98)
			b.node(20, l[i])
			b.node(20, l[j])
			b.holds()
			b.pop()
			b.pop()
			if all(b.g) != want {
				t.Fatal("behind the Pop of", i, j)
			}
			b.holds()
		}
	}
}

// Marks within marks, at each of which everything is noted and held against what
// is there behind its Pop.
func TestMarksWithinMarks(t *testing.T) {
	m := newMaker(3)
	for range 600 {
		b := newBoth(t)
		var noted []string
		for range 60 {
			switch m.Intn(9) {
			case 0, 1:
				noted = append(noted, all(b.g))
				b.push()
			case 2, 3:
				b.pop()
				if last := len(noted) - 1; last >= 0 {
					if got := all(b.g); got != noted[last] {
						t.Fatalf("behind the Pop %s, not %s", got, noted[last])
					}
					noted = noted[:last]
				}
			case 4, 5, 6:
				m.addNode(b)
			default:
				m.addMerge(b)
			}
			b.holds()
		}
	}
}

// Calls in a row, the same ones again and again, with a Pop between them: each
// time everything is as the first time.
func TestTheSameAgain(t *testing.T) {
	for seed := range int64(60) {
		b := newBoth(t)
		start := newMaker(seed)
		for range 8 {
			start.addNode(b)
			start.addMerge(b)
		}
		ahead, behind := all(b.g), ""
		for range 4 {
			m := newMaker(seed + 1000)
			b.push()
			for range 8 {
				m.addNode(b)
				m.addMerge(b)
			}
			if behind == "" {
				behind = all(b.g)
			} else if all(b.g) != behind {
				t.Fatal("told the same behind a Pop", seed)
			}
			b.holds()
			b.pop()
			if all(b.g) != ahead {
				t.Fatal("behind the Pop", seed)
			}
		}
	}
}
