package omega

// A why is a rising list of places: of conditions, and of assumptions, which
// are numbered behind them. Whys are shared, and never changed.

// union: what is in one of two whys at least.
func union(a, b []int) []int {
	switch {
	case len(a) == 0:
		return b
	case len(b) == 0:
		return a
	}
	out := make([]int, 0, len(a)+len(b))
	for len(a) > 0 && len(b) > 0 {
		n := min(a[0], b[0])
		out = append(out, n)
		if a[0] == n {
			a = a[1:]
		}
		if b[0] == n {
			b = b[1:]
		}
	}
	return append(append(out, a...), b...)
}
