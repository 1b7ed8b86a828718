package spread

import (
	"reglet/api"
	"reglet/flow"
	"reglet/ins"
)

// None is the number of no stretch.
const None = -1

// Ways are those of a well formed function, there and back. What throws is told stretch by stretch: a row is about all places of a stretch or about none, so that what they throw is caught at the same places. Stretches in which nothing throws are left out.
type Ways struct {
	// The places that follow each place, and those that it follows.
	Next, Prior [][]int
	// The stretch of each place that throws; None of the others.
	Stretch []int
	// For each stretch its places that throw, and those at which that is caught.
	Throwing, Caught [][]int
	// For each place the stretches of which something may be caught there.
	Catches [][]int
}

// WaysOf are the ways of a well formed function.
func WaysOf(f api.Func) Ways {
	n := len(f.Code)
	w := Ways{Next: make([][]int, n), Prior: make([][]int, n), Stretch: make([]int, n), Throwing: throwing(f), Catches: make([][]int, n)}
	for i := range f.Code {
		w.Stretch[i] = None
		w.Next[i] = flow.Next(f, i)
		for _, to := range w.Next[i] {
			w.Prior[to] = append(w.Prior[to], i)
		}
	}
	for stretch, places := range w.Throwing {
		for _, i := range places {
			w.Stretch[i] = stretch
		}
		caught := flow.Caught(f, places[0])
		w.Caught = append(w.Caught, caught)
		for _, at := range caught {
			w.Catches[at] = append(w.Catches[at], stretch)
		}
	}
	return w
}

// throwing are the places that throw, stretch by stretch.
func throwing(f api.Func) [][]int {
	isCut := make([]bool, len(f.Code)+1)
	for _, r := range f.Rows {
		isCut[r.From], isCut[r.To] = true, true
	}
	var stretches [][]int
	begins := true
	for i, x := range f.Code {
		begins = begins || isCut[i]
		if !ins.Throws(x) {
			continue
		}
		if begins {
			stretches = append(stretches, nil)
			begins = false
		}
		last := len(stretches) - 1
		stretches[last] = append(stretches[last], i)
	}
	return stretches
}
