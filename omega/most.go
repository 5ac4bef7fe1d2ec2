package omega

import (
	"whetstone/big"
	"whetstone/linear"
)

// top is how great a sum can become. If it has no end, ray is a way on which it
// grows for ever: how far each variable goes in one step, in whole numbers.
type top struct {
	edge bound
	ray  values
}

// goal stands for what is made as great as can be.
const goal = -1

// most: how great a sum can become, rounded down; the spot, that must be within
// all strips, goes there.
func (t *tableau) most(sum linear.Term) top {
	l := t.told(goal, sum)
	for {
		v, ok := t.mover(l.t, true)
		if !ok {
			n, _ := big.Floor(t.at.of(l.t), l.times)
			return top{edge: bound{true, n, t.blame(l.t, true)}}
		}
		scale := t.scale()
		step := scale
		if big.Sign(linear.Coef(l.t, v)) < 0 {
			step = big.Neg(scale)
		}
		way := t.drift(v, step)
		i, edge := t.stop(way, t.spot(scale), scale)
		if i < 0 {
			return top{ray: way}
		}
		// It may be the variable's own other end: then it is told by itself.
		by := t.swap(t.told(t.first+i, t.strips[i].t), v, edge.n)
		l = l.told(by)
	}
}

// drift is how far the variables go, if one that has no line goes by step, which
// every line's times divides.
func (t *tableau) drift(v int, step big.Int) values {
	way := values{}
	if v < t.first {
		way[v] = step
	}
	for _, l := range t.lines {
		way[l.of] = exactly(big.Mul(linear.Coef(l.t, v), step), l.times)
	}
	return way
}

// stop: which strip's end is met first on a way from a spot (-1: none), and that
// end. Of several the first is taken, so that climbing ends.
func (t *tableau) stop(way, spot values, scale big.Int) (int, bound) {
	found, end := -1, bound{}
	room, per := big.Int{}, big.Int{}
	for i, s := range t.strips {
		pace := way.of(s.t)
		b := t.limit(t.first+i, big.Sign(pace) < 0)
		if big.Sign(pace) == 0 || !b.there {
			continue
		}
		far := big.Abs(big.Sub(big.Mul(b.n, scale), spot.of(s.t)))
		pace = big.Abs(pace)
		if found < 0 || big.Cmp(big.Mul(far, per), big.Mul(room, pace)) < 0 {
			found, end, room, per = i, b, far, pace
		}
	}
	return found, end
}

// span is what a sum can be, in whole numbers; if it has no end to one side, there
// is a ray to that side instead.
func (t *tableau) span(sum linear.Term) (low, high bound, ray values) {
	up := t.most(sum)
	if !up.edge.there {
		return bound{}, bound{}, up.ray
	}
	down := t.most(linear.Scale(sum, big.Of(-1)))
	if !down.edge.there {
		return bound{}, bound{}, down.ray
	}
	down.edge.n = big.Neg(down.edge.n)
	return down.edge, up.edge, nil
}
