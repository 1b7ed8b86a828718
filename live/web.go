package live

import (
	"reglet/api"
	"reglet/ins"
	"reglet/spread"
)

// A web is a well formed function as what is live goes through it: from where it is read back to wherever one comes from.
type web struct {
	// What each place reads, and writes.
	uses [][]int
	defs []int
	ways spread.Ways
}

func webOf(f api.Func) web {
	n := len(f.Code)
	w := web{uses: make([][]int, n), defs: make([]int, n), ways: spread.WaysOf(f)}
	for i, x := range f.Code {
		w.uses[i], w.defs[i] = ins.Uses(x), ins.Def(x)
	}
	return w
}

// ahead tells for each place which of the registers that stand together from first on are live ahead of it.
func (w web) ahead(first int) []set {
	live, written := make([]set, len(w.uses)), make([]set, len(w.uses))
	thrown := make([]set, len(w.ways.Throwing))
	// The last place is done first, so that code without circles is gone through about once.
	var todo []int
	for i := range w.uses {
		live[i], written[i] = setOf(first, w.uses[i]...), setOf(first, w.defs[i])
		if live[i] != 0 {
			todo = append(todo, i)
		}
	}
	spread.Marks(live, todo, func(i int, bring func(to int, more set)) {
		for _, from := range w.ways.Prior[i] {
			bring(from, live[i].without(written[from]))
		}
		for _, stretch := range w.ways.Catches[i] {
			if live[i].without(thrown[stretch]) == 0 {
				continue
			}
			thrown[stretch] |= live[i]
			for _, from := range w.ways.Throwing[stretch] {
				bring(from, live[i])
			}
		}
	})
	return live
}
