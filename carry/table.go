package carry

import "reglet/api"

// A table says which registers are copies of which ones ahead of each place that can be reached, on all ways to it.
type table struct {
	pairs []pair
	// The numbers of the pairs in which each register is the copy.
	of [][]int
	// For each word of pairs, place by place: which of them may not hold there.
	lost [][]uint64
}

// tableOf is the table of a well formed function.
func tableOf(f api.Func) *table {
	w := webOf(f)
	t := &table{pairs: w.pairs, of: make([][]int, len(f.Regs))}
	for k, p := range w.pairs {
		t.of[p.copy] = append(t.of[p.copy], k)
	}
	for first := 0; first < len(w.pairs); first += together {
		t.lost = append(t.lost, w.lost(first))
	}
	return t
}

// source is the register that an OpMove made another one a copy of, which it still is ahead of a place. There is one at most: the next OpMove takes the one before away. No table has none.
func (t *table) source(i, r int) (int, bool) {
	if t == nil {
		return 0, false
	}
	for _, k := range t.of[r] {
		if t.lost[k/together][i]&bit(k%together, 0) == 0 {
			return t.pairs[k].source, true
		}
	}
	return 0, false
}
