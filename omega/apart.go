package omega

import "whetstone/linear"

// apart: the strips in groups that have no variable in common, so that what can't
// be in one of them is looked for there alone.
func (y *system) apart() []*system {
	groups := y.groups()
	places := map[int]int{}
	var out []*system
	for _, s := range y.strips {
		g := groups[s.t.Parts[0].Var]
		i, there := places[g]
		if !there {
			i = len(out)
			places[g] = i
			out = append(out, newSystem())
		}
		out[i].meet(s)
	}
	return out
}

// groups: of each variable the last strip of its group.
func (y *system) groups() map[int]int {
	groups := map[int]int{}
	for i, s := range y.strips {
		for v := range linear.Vars(s.t) {
			if g, there := groups[v]; there && g != i {
				rename(groups, g, i)
			}
			groups[v] = i
		}
	}
	return groups
}

func rename(groups map[int]int, from, to int) {
	for v, g := range groups {
		if g == from {
			groups[v] = to
		}
	}
}
