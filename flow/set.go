package flow

import (
	"reglet/api"
	"reglet/ins"
)

// So many registers are looked at together, a bit each.
const together = 64

// Set: is each register written ahead of each place that reads it, on all ways?
func Set(f api.Func) bool {
	if ins.Check(f) != api.OK {
		return false
	}
	w := webOf(f)
	for first := 0; first < len(f.Regs); first += together {
		if w.readsUnset(first) {
			return false
		}
	}
	return true
}

// readsUnset: is one of the registers from first on read where it may not be written yet? The function must be well formed.
func (w web) readsUnset(first int) bool {
	unset := w.spread(unsetAtFirst(w.f, first), func(i int) uint64 { return bit(ins.Def(w.f.Code[i]), first) })
	for i, x := range w.f.Code {
		if unset[i] == 0 {
			continue
		}
		for _, r := range ins.Uses(x) {
			if unset[i]&bit(r, first) != 0 {
				return true
			}
		}
	}
	return false
}

// unsetAtFirst are those of the registers from first on that no argument lies in.
func unsetAtFirst(f api.Func, first int) uint64 {
	var unset uint64
	for r := first; r < min(first+together, len(f.Regs)); r++ {
		unset |= bit(r, first)
	}
	for _, r := range f.Params {
		unset &^= bit(r, first)
	}
	return unset
}

// bit is a register's among those from first on; 0, if it is none of them: a number below first is one of many bits without its sign.
func bit(r, first int) uint64 { return 1 << uint64(r-first) }
