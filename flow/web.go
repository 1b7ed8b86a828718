package flow

import (
	"reglet/api"
	"reglet/ins"
)

// A web is a function with what is asked of it again and again while marks spread in it.
type web struct {
	f    api.Func
	next [][]int
	// The number of the stretch in which a place lies. The rows about all places of a stretch are the same, so that what one of them threw no other one needs to throw.
	stretch []int
}

func webOf(f api.Func) web {
	w := web{f, make([][]int, len(f.Code)), make([]int, len(f.Code))}
	cut := make([]bool, len(f.Code))
	for _, r := range f.Rows {
		for _, i := range [...]int{r.From, r.To} {
			if isPlace(f, i) {
				cut[i] = true
			}
		}
	}
	stretch := 0
	for i := range f.Code {
		if cut[i] {
			stretch++
		}
		w.stretch[i] = stretch
		w.next[i] = Next(f, i)
	}
	return w
}

// spread tells for each place which marks come to it when these begin at place 0: what comes to a place goes on to its Next, but for what the place stops, and to its Caught.
func (w web) spread(begin uint64, stopped func(i int) uint64) []uint64 {
	marks := make([]uint64, len(w.f.Code))
	thrown := make([]uint64, len(w.f.Code)+1)
	var todo []int
	bring := func(i int, more uint64) {
		if isPlace(w.f, i) && more&^marks[i] != 0 {
			marks[i] |= more
			todo = append(todo, i)
		}
	}
	bring(0, begin)
	for len(todo) > 0 {
		i := todo[len(todo)-1]
		todo = todo[:len(todo)-1]
		for _, to := range w.next[i] {
			bring(to, marks[i]&^stopped(i))
		}
		s := w.stretch[i]
		if ins.Throws(w.f.Code[i]) && marks[i]&^thrown[s] != 0 {
			thrown[s] |= marks[i]
			for at := range catchers(w.f.Rows, i) {
				bring(at, marks[i])
			}
		}
	}
	return marks
}
