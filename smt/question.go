package smt

import (
	"whetstone/formula"
	"whetstone/linear"
)

// question is one: literals that must be so, and apps.
type question struct {
	k      *known
	read   reading
	split  map[shared]int // formulas that were split into what they ask for
	must   []literal      // in the order in which they were met
	there  map[literal]int
	broken bool // something must be so that never is
	apps   []App
	names  []int       // of each variable as layer 12 is told it: the one that it stands for
	places map[int]int // the other way
	made   int         // how many atoms were made that no formula has
}

func newQuestion(k *known, apps []App) *question {
	return &question{
		k:      k,
		read:   reading{k, map[shared]literal{}},
		split:  map[shared]int{},
		there:  map[literal]int{},
		apps:   tidied(apps),
		places: map[int]int{},
	}
}

// tidied are apps, each once, their sums in the one form.
func tidied(apps []App) []App {
	var out []App
	met := map[named]int{}
	for _, a := range apps {
		name := nameOf(a)
		if met[name]++; met[name] > 1 {
			continue
		}
		args := make([]linear.Term, 0, len(a.Args))
		for _, t := range a.Args {
			args = append(args, linear.Norm(t))
		}
		out = append(out, App{a.Fn, args, a.Var})
	}
	return out
}

// require: a formula must be so, or mustn't be. If that asks for several things at
// once, they must be so one by one: no gate is needed for them.
func (q *question) require(f formula.F, so bool) {
	for f.Kind == formula.Not && len(f.Args) > 0 {
		f, so = f.Args[0], !so
	}
	if so && f.Kind == formula.And || !so && f.Kind == formula.Or {
		name := sharedBy(f)
		if q.split[name]++; q.split[name] > 1 {
			return
		}
		for _, a := range f.Args {
			q.require(a, so)
		}
		return
	}
	l := q.read.literal(f)
	if !so {
		l = -l
	}
	q.demand(l)
}

// demand: a literal must be so.
func (q *question) demand(l literal) {
	switch {
	case l == always || q.there[l] > 0:
		return
	case l == never:
		q.broken = true
		return
	}
	q.there[l]++
	q.must = append(q.must, l)
	q.k.explain(l)
}

// answer: can all be so? What is so by the search is held against numbers, and what
// numbers are found against functions; each time one of these doesn't fit, a clause
// or a literal more says why, and the same is never found again.
func (q *question) answer() bool {
	q.derive()
	q.recall()
	for !q.broken {
		if so, _ := q.k.search.Solve(numbers(q.must)...); !so {
			return false
		}
		m, ok := q.settle(q.chosen())
		if ok && !q.object(m) {
			return true
		}
	}
	return false
}
