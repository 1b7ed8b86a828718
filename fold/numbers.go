package fold

import (
	"reglet/api"
	"reglet/ins"
	"reglet/num"
)

// numbers are the registers that are known, with what lies in them.
type numbers map[int]int64

// folded is what becomes of an instruction of a well formed function: a constant, or a way that asks nothing, if what it reads is known. All others stay, checks too.
func (known numbers) folded(x api.Ins) api.Ins {
	a, knowsA := known[x.A]
	b, knowsB := known[x.B]
	knowsBoth := knowsA && knowsB
	switch {
	case x.Op == api.OpMove && knowsA:
		return constant(x.Dst, a)
	case x.Op == api.OpUn && knowsA:
		return constant(x.Dst, num.One(int(x.Num), a))
	case x.Op == api.OpBin && knowsBoth:
		return constant(x.Dst, num.Two(int(x.Num), a, b))
	case x.Op == api.OpIfInt && knowsBoth:
		return way(x.To, num.Holds(x.Num, a, b))
	}
	return x
}

func constant(r int, n int64) api.Ins { return api.Ins{Op: api.OpConst, Dst: r, Num: n} }

// way leads to a place, if it is taken.
func way(to int, isTaken bool) api.Ins {
	if isTaken {
		return api.Ins{Op: api.OpGoto, To: to}
	}
	return api.Ins{Op: api.OpNop}
}

// note keeps what an instruction makes known, and forgets what it writes otherwise.
func (known numbers) note(x api.Ins) {
	r := ins.Def(x)
	if x.Op == api.OpConst {
		known[r] = x.Num
		return
	}
	delete(known, r)
}
