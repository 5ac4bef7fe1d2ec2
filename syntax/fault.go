package syntax

import "whetstone/api"

// fault is what an item that goes wrong is given up with: the bytes that are
// wrong, and the error.
type fault struct {
	at api.Span
	e  api.Errno
}

// caught: the fault that recover brought. What isn't of this package goes on,
// since it tells of something else.
func caught(x any) fault {
	f, own := x.(fault)
	if !own {
		panic(x)
	}
	return f
}
