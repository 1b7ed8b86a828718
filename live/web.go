package live

import (
	"reglet/api"
	"reglet/flow"
	"reglet/ins"
)

// A web is a well formed function as what is live goes through it: from where it is read back to wherever one comes from.
type web struct {
	// What each place reads, and writes.
	uses [][]int
	defs []int
	// The places that follow each place, and those that it follows.
	next, prior [][]int
	// The places that throw, stretch by stretch. A row is about all places of a stretch or about none, so that what they throw is caught at the same places.
	throwing [][]int
	// For each place the stretches of which something may be caught there.
	catches [][]int
}

func webOf(f api.Func) web {
	n := len(f.Code)
	w := web{
		uses: make([][]int, n), defs: make([]int, n), next: make([][]int, n), prior: make([][]int, n),
		throwing: throwing(f), catches: make([][]int, n),
	}
	for i, x := range f.Code {
		w.uses[i], w.defs[i], w.next[i] = ins.Uses(x), ins.Def(x), flow.Next(f, i)
		for _, to := range w.next[i] {
			w.prior[to] = append(w.prior[to], i)
		}
	}
	for stretch, places := range w.throwing {
		for _, at := range flow.Caught(f, places[0]) {
			w.catches[at] = append(w.catches[at], stretch)
		}
	}
	return w
}

// throwing are the places that throw, stretch by stretch; stretches without such places are left out.
func throwing(f api.Func) [][]int {
	isCut := make([]bool, len(f.Code)+1)
	for _, r := range f.Rows {
		isCut[r.From], isCut[r.To] = true, true
	}
	var stretches [][]int
	begins := true
	for i, x := range f.Code {
		begins = begins || isCut[i]
		if !ins.Throws(x) {
			continue
		}
		if begins {
			stretches = append(stretches, nil)
			begins = false
		}
		last := len(stretches) - 1
		stretches[last] = append(stretches[last], i)
	}
	return stretches
}

// spread tells for each place which of the registers that stand together from first on are live ahead of it.
func (w web) spread(first int) []set {
	live, written := make([]set, len(w.uses)), make([]set, len(w.uses))
	thrown := make([]set, len(w.throwing))
	var todo []int
	waits := make([]bool, len(w.uses))
	bring := func(i int, more set) {
		if more.without(live[i]) == 0 {
			return
		}
		live[i] |= more
		if !waits[i] {
			waits[i] = true
			todo = append(todo, i)
		}
	}
	// The last place is done first, so that code without circles is gone through about once.
	for i := range w.uses {
		written[i] = setOf(first, w.defs[i])
		bring(i, setOf(first, w.uses[i]...))
	}
	for len(todo) > 0 {
		i := todo[len(todo)-1]
		todo = todo[:len(todo)-1]
		waits[i] = false
		for _, from := range w.prior[i] {
			bring(from, live[i].without(written[from]))
		}
		for _, stretch := range w.catches[i] {
			if live[i].without(thrown[stretch]) == 0 {
				continue
			}
			thrown[stretch] |= live[i]
			for _, from := range w.throwing[stretch] {
				bring(from, live[i])
			}
		}
	}
	return live
}
