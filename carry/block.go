package carry

import (
	"reglet/api"
	"reglet/ins"
)

// A block is gone through place by place, and knows what each register is a copy of.
type block struct {
	head  int
	ahead *table
	// Where each register was written last, and which one it became a copy of there: itself, if of none. What was written ahead of the head says nothing here.
	written, source []int
}

func newBlock(f api.Func, ahead *table) *block {
	b := &block{ahead: ahead, written: make([]int, len(f.Regs)), source: make([]int, len(f.Regs))}
	for r := range f.Regs {
		b.written[r] = -1
	}
	return b
}

// step answers the instruction at the block's next place, with copies read at their source, and notes what it writes.
func (b *block) step(i int, x api.Ins) api.Ins {
	reads := ins.Uses(x)
	for k, r := range reads {
		reads[k] = b.sourceOf(r)
	}
	x = ins.Replace(x, reads)
	if r := ins.Def(x); r >= 0 {
		b.written[r], b.source[r] = i, r
		if x.Op == api.OpMove {
			b.source[r] = x.A
		}
	}
	return x
}

// sourceOf is the register that a register is a copy of; the register itself, if it is none.
func (b *block) sourceOf(r int) int {
	if b.written[r] < b.head {
		return b.sourceAhead(r)
	}
	source := b.source[r]
	if b.written[source] < b.written[r] {
		return source
	}
	return r
}

// sourceAhead is that of one that the block didn't write so far. Ahead of the block it was a copy of another one, that one of a next one, and so on: all held the same, and the last one that the block didn't write holds it still. The row ends, since each was written behind the next one.
func (b *block) sourceAhead(r int) int {
	source := r
	for next, is := b.ahead.source(b.head, r); is; next, is = b.ahead.source(b.head, next) {
		if b.written[next] < b.head {
			source = next
		}
	}
	return source
}
