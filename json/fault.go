package json

import "whetstone/api"

// fault is what a text or a value that goes wrong is given up with.
type fault struct {
	at int
	e  api.Errno
}

// caught: the fault that recover brought. What isn't of this package goes on,
// since it tells of something else.
func caught(x any) fault {
	f, own := x.(fault)
	if !own {
		panic(x)
	}
	return f
}
