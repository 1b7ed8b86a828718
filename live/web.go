package live

import (
	"reglet/api"
	"reglet/flow"
	"reglet/ins"
	"reglet/spread"
)

// A web is a well formed function as what is live goes through it: from where it is read back to wherever one comes from.
type web struct {
	// What each place reads, and writes.
	uses [][]int
	defs []int
	// The places that follow each place, and those that it follows.
	next, prior [][]int
	// The places that throw, stretch by stretch. A row is about all places of a stretch or about none, so that what they throw is caught at the same places.
	throwing [][]int
	// For each place the stretches of which something may be caught there.
	catches [][]int
}

func webOf(f api.Func) web {
	n := len(f.Code)
	w := web{
		uses: make([][]int, n), defs: make([]int, n), next: make([][]int, n), prior: make([][]int, n),
		throwing: spread.Throwing(f), catches: make([][]int, n),
	}
	for i, x := range f.Code {
		w.uses[i], w.defs[i], w.next[i] = ins.Uses(x), ins.Def(x), flow.Next(f, i)
		for _, to := range w.next[i] {
			w.prior[to] = append(w.prior[to], i)
		}
	}
	for stretch, places := range w.throwing {
		for _, at := range flow.Caught(f, places[0]) {
			w.catches[at] = append(w.catches[at], stretch)
		}
	}
	return w
}

// ahead tells for each place which of the registers that stand together from first on are live ahead of it.
func (w web) ahead(first int) []set {
	live, written := make([]set, len(w.uses)), make([]set, len(w.uses))
	thrown := make([]set, len(w.throwing))
	// The last place is done first, so that code without circles is gone through about once.
	var todo []int
	for i := range w.uses {
		live[i], written[i] = setOf(first, w.uses[i]...), setOf(first, w.defs[i])
		if live[i] != 0 {
			todo = append(todo, i)
		}
	}
	spread.Marks(live, todo, func(i int, bring func(to int, more set)) {
		for _, from := range w.prior[i] {
			bring(from, live[i].without(written[from]))
		}
		for _, stretch := range w.catches[i] {
			if live[i].without(thrown[stretch]) == 0 {
				continue
			}
			thrown[stretch] |= live[i]
			for _, from := range w.throwing[stretch] {
				bring(from, live[i])
			}
		}
	})
	return live
}
