package engine

import (
	"slices"

	"whetstone/gen"
)

// cone is the places that a change can touch.
type cone struct {
	in    map[gen.Kap]struct{}
	ahead []gen.Kap // those from which nobody has gone on yet
}

func newCone() *cone { return &cone{in: map[gen.Kap]struct{}{}} }

func (c *cone) add(places ...gen.Kap) {
	for _, k := range places {
		if !c.has(k) {
			c.in[k] = struct{}{}
			c.ahead = append(c.ahead, k)
		}
	}
}

func (c *cone) has(k gen.Kap) bool {
	_, there := c.in[k]
	return there
}

// addHeads: the places of these conditions' Heads.
func (c *cone) addHeads(l []gen.Cons) {
	for _, x := range l {
		if x.Head.IsK {
			c.add(x.Head.Use.K)
		}
	}
}

// spread: what is known of a place touches the Heads' places of the conditions that
// know it.
func (c *cone) spread(l []gen.Cons) {
	leads := map[gen.Kap][]gen.Kap{}
	for _, x := range l {
		for _, h := range x.Hyps {
			if h.IsK && x.Head.IsK {
				leads[h.Use.K] = append(leads[h.Use.K], x.Head.Use.K)
			}
		}
	}
	for len(c.ahead) > 0 {
		k := c.ahead[0]
		c.ahead = c.ahead[1:]
		c.add(leads[k]...)
	}
}

// touches: does a condition know something by a place of the cone?
func (c *cone) touches(x gen.Cons) bool {
	return slices.ContainsFunc(x.Hyps, func(h gen.Hyp) bool { return h.IsK && c.has(h.Use.K) })
}
