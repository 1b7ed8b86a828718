package lower

import (
	"reglet/api"
	"reglet/opcode"
)

// do adds what does the same as an instruction of the stack code. It adds something for each of them, so that a row is always about some places.
func (k *translator) do(op api.Op) {
	// A method of a world has no code that is none: so it is enough to say where a group ends.
	switch c := op.Code; {
	case c <= opcode.Constant:
		k.tell(op)
	case c <= opcode.LoadRef:
		k.load(op.A)
	case c <= opcode.GetRef:
		k.getElement()
	case c <= opcode.StoreRef:
		k.store(op.A)
	case c <= opcode.PutRef:
		k.putElement(c)
	case c <= opcode.Swap:
		k.turn(c)
	case c == opcode.Count:
		k.count(op)
	case c <= opcode.LastComputes:
		k.compute(c)
	case c <= opcode.Goto, c >= opcode.IfNull:
		k.compare(op)
	case c <= opcode.Return:
		k.giveBack(c)
	case c <= opcode.PutField:
		k.field(op)
	case c <= opcode.CallIface:
		k.call(op)
	default:
		k.thing(op)
	}
}

// tell: what the instruction itself tells is pushed.
func (k *translator) tell(op api.Op) {
	switch c := op.Code; c {
	case opcode.Nop:
		k.add(api.Ins{Op: api.OpNop})
	case opcode.Null:
		k.add(api.Ins{Op: api.OpNull, Dst: k.push()})
	case opcode.Long0, opcode.Long1:
		k.tellNumber(int64(c - opcode.Long0))
	case opcode.Byte, opcode.Short:
		k.tellNumber(int64(op.A))
	case opcode.Constant:
		k.tellConstant(k.pool[op.A])
	default:
		// The first one is the int -1.
		k.tellNumber(int64(c - opcode.FirstInt - 1))
	}
}

func (k *translator) tellNumber(n int64) {
	k.add(api.Ins{Op: api.OpConst, Dst: k.push(), Num: n})
}

func (k *translator) tellConstant(c api.Const) {
	if c.Kind == api.ConstString {
		k.add(api.Ins{Op: api.OpText, Dst: k.push(), Ref: c.Text})
		return
	}
	k.tellNumber(c.Num)
}

func (k *translator) move(to, from int) { k.add(api.Ins{Op: api.OpMove, Dst: to, A: from}) }

func (k *translator) load(n int) {
	to := k.push()
	k.move(to, k.local(n, k.f.Regs[to]))
}

func (k *translator) store(n int) {
	from := k.pop()
	k.move(k.local(n, k.f.Regs[from]), from)
}

// checkThing adds a check that it isn't nothing.
func (k *translator) checkThing(r int) { k.add(api.Ins{Op: api.OpNullCheck, A: r}) }

// checkPlace adds the checks that an array is there, and that it has a place of that number.
func (k *translator) checkPlace(array, i int) {
	k.checkThing(array)
	k.add(api.Ins{Op: api.OpBoundCheck, A: array, B: i})
}

func (k *translator) getElement() {
	i, array := k.pop(), k.pop()
	k.checkPlace(array, i)
	k.add(api.Ins{Op: api.OpLoad, Dst: k.push(), A: array, B: i})
}

func (k *translator) putElement(code int) {
	v, i, array := k.pop(), k.pop(), k.pop()
	k.checkPlace(array, i)
	if code == opcode.PutRef {
		k.add(api.Ins{Op: api.OpStoreCheck, A: array, B: v})
	}
	k.add(api.Ins{Op: api.OpStore, A: array, B: i, C: v})
}

// turn is of those that turn the uppermost ones about. Each move goes to what no later one has still to read, be the two that change places of one kind or of two.
func (k *translator) turn(code int) {
	a := k.pop()
	switch code {
	case opcode.Pop:
		k.add(api.Ins{Op: api.OpNop})
	case opcode.Double:
		k.push()
		k.move(k.push(), a)
	case opcode.DoubleLow:
		b := k.pop()
		low, middle, high := k.push(), k.push(), k.push()
		k.move(high, a)
		k.move(middle, b)
		k.move(low, high)
	case opcode.Swap:
		b := k.pop()
		low, high := k.push(), k.push()
		kept := k.beside(k.f.Regs[a])
		k.move(kept, a)
		k.move(high, b)
		k.move(low, kept)
	}
}

func (k *translator) count(op api.Op) {
	n, by := k.local(op.A, api.KindInt), k.beside(api.KindInt)
	k.add(api.Ins{Op: api.OpConst, Dst: by, Num: int64(op.B)})
	k.add(api.Ins{Op: api.OpBin, Dst: n, A: n, B: by, Num: opcode.Sum})
}

func (k *translator) compute(code int) {
	takesTwo := len(k.behind.Stack) < len(k.ahead.Stack)
	if !takesTwo {
		a := k.pop()
		k.add(api.Ins{Op: api.OpUn, Dst: k.push(), A: a, Num: int64(code)})
		return
	}
	b, a := k.pop(), k.pop()
	if divides(code) {
		k.add(api.Ins{Op: api.OpZeroCheck, A: b})
	}
	k.add(api.Ins{Op: api.OpBin, Dst: k.push(), A: a, B: b, Num: int64(code)})
}

// divides: is it the code of a quotient or of a rest?
func divides(code int) bool {
	switch code {
	case opcode.QuotientInt, opcode.QuotientLong, opcode.RestInt, opcode.RestLong:
		return true
	}
	return false
}

// compare: what goes on elsewhere, by what it takes.
func (k *translator) compare(op api.Op) {
	x := api.Ins{Op: api.OpGoto, To: op.A}
	switch c := op.Code; {
	case c <= opcode.LastIfZero:
		x.Op, x.Num = api.OpIfInt, int64(c-opcode.FirstIfZero)
		x.A, x.B = k.pop(), k.beside(api.KindInt)
		k.add(api.Ins{Op: api.OpConst, Dst: x.B})
	case c <= opcode.LastIfInt:
		x.Op, x.Num = api.OpIfInt, int64(c-opcode.FirstIfInt)
		x.B, x.A = k.pop(), k.pop()
	case c <= opcode.IfOther:
		x.Op, x.Num = api.OpIfRef, int64(c-opcode.IfSame)
		x.B, x.A = k.pop(), k.pop()
	case c >= opcode.IfNull:
		x.Op, x.Num = api.OpIfRef, int64(c-opcode.IfNull)
		x.A, x.B = k.pop(), noRegister
	}
	k.lead(x)
}

func (k *translator) giveBack(code int) {
	x := api.Ins{Op: api.OpReturn, A: noRegister}
	if code != opcode.Return {
		x.A = k.pop()
	}
	k.add(x)
}
