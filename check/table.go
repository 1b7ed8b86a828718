package check

import (
	"reglet/api"
	"reglet/desc"
	"reglet/num"
	"reglet/opcode"
)

// do does to the state what the chapter's table says of an instruction, or notes a fault.
func (k *checker) do(op api.Op) {
	// Decode lets through no code that is none: so it is enough to say where a group ends.
	switch c := op.Code; {
	case c <= opcode.Constant:
		k.tell(op)
	case c <= opcode.LoadRef:
		k.load(op)
	case c <= opcode.GetRef:
		k.getElement(c)
	case c <= opcode.StoreRef:
		k.store(op)
	case c <= opcode.PutRef:
		k.putElement(c)
	case c <= opcode.Swap:
		k.turn(c)
	case c == opcode.Count:
		k.refuse(k.local(op.A) != typeInt, api.ErrType)
	case c <= opcode.LastComputes:
		k.compute(c)
	case c <= opcode.Goto, c >= opcode.IfNull:
		k.compare(c)
	case c <= opcode.Return:
		k.giveBack(c)
	case c <= opcode.PutField:
		k.field(op)
	case c <= opcode.CallIface:
		k.call(op)
	default:
		k.thing(op)
	}
}

// tell: what the instruction itself tells is pushed.
func (k *checker) tell(op api.Op) {
	switch op.Code {
	case opcode.Nop:
	case opcode.Null:
		k.push(typeNull)
	case opcode.Long0, opcode.Long1:
		k.push(typeLong)
	case opcode.Constant:
		k.tellConstant(op.A)
	default:
		k.push(typeInt)
	}
}

func (k *checker) tellConstant(number int) {
	c := k.pooled(number, api.ConstInt, api.ConstLong, api.ConstString)
	switch c.Kind {
	case api.ConstInt:
		k.refuse(c.Num != int64(int32(c.Num)), api.ErrConst)
		k.push(typeInt)
	case api.ConstLong:
		k.push(typeLong)
	case api.ConstString:
		k.push(typeText)
	}
}

func (k *checker) load(op api.Op) {
	kind := api.KindRef
	switch op.Code {
	case opcode.LoadInt:
		kind = api.KindInt
	case opcode.LoadLong:
		kind = api.KindLong
	}
	typ := k.local(op.A)
	k.refuse(desc.Kind(typ) != kind, api.ErrType)
	k.push(typ)
}

func (k *checker) store(op api.Op) {
	typ := typeInt
	switch op.Code {
	case opcode.StoreInt:
		k.pop(typeInt)
	case opcode.StoreLong:
		typ = typeLong
		k.pop(typeLong)
	case opcode.StoreRef:
		typ = k.popRef()
	}
	k.local(op.A)
	if k.fault == api.OK {
		k.state.Locals[op.A] = typ
	}
}

func (k *checker) getElement(code int) {
	k.pop(typeInt)
	switch code {
	case opcode.GetInt:
		k.pop(typeInts)
		k.push(typeInt)
	case opcode.GetLong:
		k.pop(typeLongs)
		k.push(typeLong)
	case opcode.GetRef:
		k.push(k.popRefs())
	}
}

func (k *checker) putElement(code int) {
	switch code {
	case opcode.PutInt:
		k.pop(typeInt)
		k.pop(typeInt)
		k.pop(typeInts)
	case opcode.PutLong:
		k.pop(typeLong)
		k.pop(typeInt)
		k.pop(typeLongs)
	case opcode.PutRef:
		k.popRef()
		k.pop(typeInt)
		k.popRefs()
	}
}

func (k *checker) turn(code int) {
	a := k.take()
	switch code {
	case opcode.Double:
		k.push(a, a)
	case opcode.DoubleLow:
		b := k.take()
		k.push(a, b, a)
	case opcode.Swap:
		b := k.take()
		k.push(a, b)
	}
}

func (k *checker) compute(code int) {
	first, second, result := num.Kinds(code)
	if second != 0 {
		k.pop(typeOf(second))
	}
	k.pop(typeOf(first))
	k.push(typeOf(result))
}

// compare: what goes on elsewhere by what it takes.
func (k *checker) compare(code int) {
	switch {
	case code <= opcode.LastIfZero:
		k.pop(typeInt)
	case code <= opcode.LastIfInt:
		k.pop(typeInt)
		k.pop(typeInt)
	case code <= opcode.IfOther:
		k.popRef()
		k.popRef()
	case code >= opcode.IfNull:
		k.popRef()
	}
}

func (k *checker) giveBack(code int) {
	k.refuse(code != returnOf(k.gives), api.ErrType)
	if k.gives != noType {
		k.pop(k.gives)
	}
}

// returnOf is the code that gives back what is of a type, or noType.
func returnOf(typ string) int {
	switch desc.Kind(typ) {
	case api.KindInt:
		return opcode.ReturnInt
	case api.KindLong:
		return opcode.ReturnLong
	case api.KindRef:
		return opcode.ReturnRef
	}
	return opcode.Return
}
