package carry

import (
	"slices"

	"reglet/api"
	"reglet/flow"
	"reglet/ins"
	"reglet/spread"
)

// together is how many pairs are looked at together: those of a word, a bit each.
const together = 64

// bit is a pair's among those from first on; 0, if it is none of them: a number below first is one of many bits without its sign.
func bit(k, first int) uint64 { return 1 << uint64(k-first) }

// A pair is what an OpMove makes: a register is a copy of another one, as long as neither is written.
type pair struct{ copy, source int }

// none is the number of no pair.
const none = -1

// A web is a well formed function as pairs get lost in it: from where one isn't made yet, or one of its registers is written, on to wherever one goes.
type web struct {
	pairs []pair
	// The pair that each place makes, and the register that it writes.
	makes, defs []int
	// The places that can be reached, the last one first.
	reached []int
	ways    spread.Ways
}

func webOf(f api.Func) web {
	n := len(f.Code)
	w := web{makes: make([]int, n), defs: make([]int, n), ways: spread.WaysOf(f)}
	reach := flow.Reach(f)
	numbers := map[pair]int{}
	for i, x := range f.Code {
		w.makes[i], w.defs[i] = none, ins.Def(x)
		if x.Op == api.OpMove && x.Dst != x.A {
			w.makes[i] = w.number(pair{x.Dst, x.A}, numbers)
		}
		if reach[i] {
			w.reached = append(w.reached, i)
		}
	}
	slices.Reverse(w.reached)
	return w
}

// number is that of a pair, which gets the next one, if it has none.
func (w *web) number(p pair, numbers map[pair]int) int {
	k, is := numbers[p]
	if !is {
		k = len(w.pairs)
		numbers[p] = k
		w.pairs = append(w.pairs, p)
	}
	return k
}

// lost tells for each place which of the pairs that stand together from first on may not hold ahead of it.
func (w *web) lost(first int) []uint64 {
	touched := w.touched(first)
	lost, thrown := make([]uint64, len(w.defs)), make([]uint64, len(w.ways.Caught))
	// At the beginning nothing is a copy. Each place is done, whatever comes to it: it may be the first one to write a pair's register.
	lost[0] = ^uint64(0)
	spread.Marks(lost, w.reached, func(i int, bring func(to int, more uint64)) {
		behind := (lost[i] | touched[w.defs[i]]) &^ bit(w.makes[i], first)
		for _, to := range w.ways.Next[i] {
			bring(to, behind)
		}
		s := w.ways.Stretch[i]
		if s == spread.None || lost[i]&^thrown[s] == 0 {
			return
		}
		// What throws doesn't write.
		thrown[s] |= lost[i]
		for _, at := range w.ways.Caught[s] {
			bring(at, lost[i])
		}
	})
	return lost
}

// touched are, of each register, the pairs from first on that are lost where it is written.
func (w *web) touched(first int) map[int]uint64 {
	touched := map[int]uint64{}
	for k := first; k < min(first+together, len(w.pairs)); k++ {
		for _, r := range [...]int{w.pairs[k].copy, w.pairs[k].source} {
			touched[r] |= bit(k, first)
		}
	}
	return touched
}
