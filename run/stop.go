package run

import "whetstone/api"

// stop is what a run that comes to no value is given up with.
type stop struct{ out Out }

// caught: what the run that recover brought came to. What isn't of this package goes
// on, since it tells of something else.
func caught(x any) Out {
	s, own := x.(stop)
	if !own {
		panic(x)
	}
	return s.out
}

func (r *runner) tire() { panic(stop{Out{Status: Tire}}) }

// odd: what no right item has is done by nobody.
func (r *runner) odd() { panic(stop{Out{Status: Odd}}) }

// must: what isn't so fails, at these bytes of the function.
func (r *runner) must(so bool, code int, at api.Span) {
	if !so {
		panic(stop{Out{Status: Fail, Fn: r.frame().fn, Span: at, Code: code, Left: r.left}})
	}
}

// take takes so many steps.
func (r *runner) take(steps int) {
	if r.left < steps {
		r.tire()
	}
	r.left -= steps
}
