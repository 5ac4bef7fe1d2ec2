package omega

import "whetstone/big"

// gram is what is known of a basis whose vectors are made orthogonal one behind
// the other, all in whole numbers: square[i] is the square of what the first i
// vectors span (of none: 1); lean[i][j] is how much vector i leans on what is new
// in vector j, square[j+1] times.
type gram struct {
	basis  []vector
	wide   int // how many numbers of a vector count
	square []big.Int
	lean   [][]big.Int
}

// reduce makes the vectors of a basis short, by whole steps, as Lenstra, Lenstra
// and Lovász have it: none leans more than half on one ahead of it, and what is
// new in one isn't much shorter than what is new in the one ahead of it. None of
// them may hang on the others.
func reduce(basis []vector, wide int) {
	g := &gram{basis: basis, wide: wide, square: []big.Int{big.Of(1)}}
	for i := range basis {
		g.enter(i)
	}
	for i := 1; i < len(basis); {
		g.shorten(i, i-1)
		if g.isShorter(i) {
			g.exchange(i)
			i = max(1, i-1)
			continue
		}
		for j := i - 2; j >= 0; j-- {
			g.shorten(i, j)
		}
		i++
	}
}

func (g *gram) product(i, j int) big.Int {
	sum := big.Int{}
	for k := range g.wide {
		sum = big.Add(sum, big.Mul(g.basis[i][k], g.basis[j][k]))
	}
	return sum
}

// enter works out how much vector i leans on those ahead of it, and last of all
// on itself: that is the square.
func (g *gram) enter(i int) {
	g.lean = append(g.lean, make([]big.Int, i+1))
	for j := range i + 1 {
		n := g.product(i, j)
		for k := range j {
			both := big.Mul(g.lean[i][k], g.lean[j][k])
			n = exactly(big.Sub(big.Mul(g.square[k+1], n), both), g.square[k])
		}
		g.lean[i][j] = n
	}
	g.square = append(g.square, g.lean[i][i])
}

// shorten takes vector j so many times from vector i that it leans on it no more
// than half.
func (g *gram) shorten(i, j int) {
	times := nearest(g.lean[i][j], g.square[j+1])
	if big.Sign(times) == 0 {
		return
	}
	less := func(a, b big.Int) big.Int { return big.Sub(a, big.Mul(times, b)) }
	for k, n := range g.basis[j] {
		g.basis[i][k] = less(g.basis[i][k], n)
	}
	for k := range j {
		g.lean[i][k] = less(g.lean[i][k], g.lean[j][k])
	}
	g.lean[i][j] = less(g.lean[i][j], g.square[j+1])
}

// exchanged is the square of the first vectors up to i, without the one ahead of
// it, square[i] times.
func (g *gram) exchanged(i int) big.Int {
	lean := g.lean[i][i-1]
	return big.Add(big.Mul(g.square[i-1], g.square[i+1]), big.Mul(lean, lean))
}

// isShorter: would vector i have much less that is new, if it stood one place
// ahead, than the one that stands there?
func (g *gram) isShorter(i int) bool {
	now := big.Mul(g.square[i], g.square[i])
	return big.Cmp(big.Mul(g.exchanged(i), big.Of(4)), big.Mul(now, big.Of(3))) < 0
}

// exchange: vector i and the one ahead of it change places.
func (g *gram) exchange(i int) {
	g.basis[i], g.basis[i-1] = g.basis[i-1], g.basis[i]
	for j := range i - 1 {
		g.lean[i][j], g.lean[i-1][j] = g.lean[i-1][j], g.lean[i][j]
	}
	square := exactly(g.exchanged(i), g.square[i])
	lean := g.lean[i][i-1]
	for _, row := range g.lean[i+1:] {
		old := row[i]
		row[i] = exactly(big.Sub(big.Mul(g.square[i+1], row[i-1]), big.Mul(lean, old)), g.square[i])
		row[i-1] = exactly(big.Add(big.Mul(square, old), big.Mul(lean, row[i])), g.square[i+1])
	}
	g.square[i] = square
}
