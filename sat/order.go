package sat

// heaviest is the weight beyond which all weights are made smaller, and lighter by
// how many bits they are then.
const (
	heaviest = 1 << 60
	lighter  = 50
)

// order tells which variable is tried next: the heaviest, which had a part in the
// last conflicts. They are a heap, each no lighter than the two below it.
type order struct {
	weight []uint64 // of each variable
	heap   []int    // variables
	where  []int    // of each variable: its place in the heap, below 0 if it isn't there
	step   uint64   // how much weight a variable gains now
}

// add: a variable more.
func (o *order) add() {
	o.weight = append(o.weight, 0)
	o.where = append(o.where, -1)
	o.put(len(o.where) - 1)
}

// put: a variable that may be tried (once more).
func (o *order) put(v int) {
	if o.where[v] < 0 {
		o.heap = append(o.heap, v)
		o.rise(len(o.heap)-1, v)
	}
}

// take: the heaviest variable, which is there no more.
func (o *order) take() (int, bool) {
	if len(o.heap) == 0 {
		return 0, false
	}
	v, last := o.heap[0], len(o.heap)-1
	moved := o.heap[last]
	o.heap = o.heap[:last]
	o.where[v] = -1
	if moved != v {
		o.sink(0, moved)
	}
	return v, true
}

// grow: what gains weight from now on gains more, so that what is long ago counts
// less and less.
func (o *order) grow() { o.step += o.step/32 + 1 }

// gain: a variable had a part in a conflict.
func (o *order) gain(v int) {
	o.weight[v] += o.step
	if o.weight[v] > heaviest {
		for i := range o.weight {
			o.weight[i] >>= lighter
		}
		o.step >>= lighter
	}
	if o.where[v] >= 0 {
		o.rise(o.where[v], v)
	}
}

// rise: a variable goes up from a place, as far as it must.
func (o *order) rise(at, v int) {
	for at > 0 {
		above := (at - 1) / 2
		if o.weight[o.heap[above]] >= o.weight[v] {
			break
		}
		o.set(at, o.heap[above])
		at = above
	}
	o.set(at, v)
}

// sink: a variable goes down from a place, as far as it must.
func (o *order) sink(at, v int) {
	for {
		below := 2*at + 1
		if below >= len(o.heap) {
			break
		}
		if below+1 < len(o.heap) && o.weight[o.heap[below+1]] > o.weight[o.heap[below]] {
			below++
		}
		if o.weight[v] >= o.weight[o.heap[below]] {
			break
		}
		o.set(at, o.heap[below])
		at = below
	}
	o.set(at, v)
}

func (o *order) set(at, v int) { o.heap[at], o.where[v] = v, at }
