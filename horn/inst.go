package horn

import (
	"whetstone/api"
	"whetstone/base"
	"whetstone/formula"
	"whetstone/gen"
	"whetstone/linear"
	"whetstone/syntax"
)

// Insts: the qualifiers that are tried for a place, at most api.MaxInst.
func Insts(t *base.Table, k gen.Kap) []Inst {
	count, there := numbersAhead(t, k)
	if !there {
		return nil
	}
	var l []Inst
	for n := range t.Quals() {
		q, _ := t.Qual(n)
		for _, row := range rows(len(q.Params)-1, count) {
			if len(l) == api.MaxInst {
				return l
			}
			l = append(l, Inst{Qual: n, At: row})
		}
	}
	return l
}

// numbersAhead: how many numbers are among the parameters ahead of a place; false:
// there is no such place. Of what type its own value is says nothing here: whether a
// place is open is layer 17's to tell.
func numbersAhead(t *base.Table, k gen.Kap) (int, bool) {
	i, there := t.Find(syntax.Fn, k.Fn)
	if !there {
		return 0, false
	}
	it, _ := t.Item(i)
	ahead := it.Params
	switch {
	case k.Pos == gen.Result:
	case k.Pos < 0 || k.Pos >= len(it.Params):
		return 0, false
	default:
		ahead = it.Params[:k.Pos]
	}
	count := 0
	for _, p := range ahead {
		if p.Type.Base == api.Int {
			count++
		}
	}
	return count, true
}

// rows: the first of so many columns, each below count, in order. The first ones of
// a column more go on from the first ones: no others are needed on the way.
func rows(columns, count int) [][]int {
	if columns < 0 {
		return nil
	}
	l := [][]int{nil}
	for range columns {
		l = longer(l, count)
	}
	return l
}

// longer: rows with a column more, the first api.MaxInst.
func longer(l [][]int, count int) [][]int {
	var out [][]int
	for _, row := range l {
		for at := range count {
			if len(out) == api.MaxInst {
				return out
			}
			// A row is cut with its room: those that go on from it share nothing.
			out = append(out, append(row[:len(row):len(row)], at))
		}
	}
	return out
}

// Formula: a qualifier's predicate of a place's numbers.
func Formula(t *base.Table, x Inst, args []linear.Term) formula.F {
	q, there := t.Qual(x.Qual)
	if !there || !fits(x.At, len(q.Params)-1, len(args)-1) {
		return formula.Yes()
	}
	nums := []gen.Named{{Name: q.Params[0].Name, T: args[0]}}
	for i, at := range x.At {
		nums = append(nums, gen.Named{Name: q.Params[i+1].Name, T: args[at+1]})
	}
	return gen.Pred(q.Body, nums, nil)
}

// fits: has a row so many columns, each one of so many numbers? A value must be
// there too: without it there are less than none.
func fits(row []int, columns, numbers int) bool {
	if len(row) != columns || numbers < 0 {
		return false
	}
	for _, at := range row {
		if at < 0 || at >= numbers {
			return false
		}
	}
	return true
}
