package lower

import (
	"reglet/api"
	"reglet/desc"
	"reglet/opcode"
)

// Types of elements.
const (
	typeInt  = "I"
	typeLong = "J"
)

// field is of the four instructions that read fields and write them.
func (k *translator) field(op api.Op) {
	c := k.pool[op.A]
	word := int64(k.world.Word(c.Text, c.Name, c.Desc))
	switch op.Code {
	case opcode.GetStatic:
		k.add(api.Ins{Op: api.OpGetStatic, Dst: k.push(), Num: word})
	case opcode.PutStatic:
		k.add(api.Ins{Op: api.OpPutStatic, A: k.pop(), Num: word})
	case opcode.GetField:
		object := k.pop()
		k.checkThing(object)
		k.add(api.Ins{Op: api.OpGetField, Dst: k.push(), A: object, Num: word})
	case opcode.PutField:
		v, object := k.pop(), k.pop()
		k.checkThing(object)
		k.add(api.Ins{Op: api.OpPutField, A: object, B: v, Num: word})
	}
}

// call is of the four instructions that call.
func (k *translator) call(op api.Op) {
	c := k.pool[op.A]
	params, gives, _ := desc.Method(c.Desc)
	count := len(params)
	if op.Code != opcode.CallStatic {
		count++
	}
	x := k.callee(op)
	x.Dst, x.Args = noRegister, make([]int, count)
	for i := range x.Args {
		x.Args[count-1-i] = k.pop()
	}
	if op.Code != opcode.CallStatic {
		k.checkThing(x.Args[0])
	}
	if desc.Kind(gives) != 0 {
		x.Dst = k.push()
	}
	k.add(x)
}

// callee is a call of the method that an instruction's constant names, but for its registers. The world answers copies of whole methods, so that each is asked for once.
func (k *translator) callee(op api.Op) api.Ins {
	op.Pc = 0
	x, before := k.callees[op]
	if !before {
		x = k.found(op.Code, k.pool[op.A])
		k.callees[op] = x
	}
	return x
}

// found is a callee that wasn't asked for till now.
func (k *translator) found(code int, c api.Const) api.Ins {
	id := k.world.Find(c.Text, c.Name, c.Desc)
	known, _, _ := k.world.Method(id)
	switch {
	case known.Native >= 0:
		// Nobody stands below a class that has one, so that it is just this one whatever the object.
		return api.Ins{Op: api.OpCallNative, Num: int64(known.Native)}
	case code == opcode.CallVirtual:
		return api.Ins{Op: api.OpCallVirtual, Num: int64(k.world.Slot(c.Text, c.Name, c.Desc))}
	case code == opcode.CallIface:
		return api.Ins{Op: api.OpCallIface, Ref: c.Name + c.Desc}
	}
	return api.Ins{Op: api.OpCall, Num: int64(id)}
}

// thing is of the instructions that make things, measure, throw, or tell them by their types.
func (k *translator) thing(op api.Op) {
	switch op.Code {
	case opcode.New:
		k.add(api.Ins{Op: api.OpNew, Dst: k.push(), Num: int64(k.world.Class(k.pool[op.A].Text))})
	case opcode.NewNumbers:
		k.makeArray(numbersOf(op.A))
	case opcode.NewRefs:
		k.makeArray(k.typeOf(op.A))
	case opcode.Length:
		array := k.pop()
		k.checkThing(array)
		k.add(api.Ins{Op: api.OpLen, Dst: k.push(), A: array})
	case opcode.Throw:
		thrown := k.pop()
		k.checkThing(thrown)
		k.add(api.Ins{Op: api.OpThrow, A: thrown})
	case opcode.Cast:
		// What passes stays where it is.
		k.add(api.Ins{Op: api.OpCastCheck, A: k.pop(), Ref: k.typeOf(op.A)})
	case opcode.Is:
		looked := k.pop()
		k.add(api.Ins{Op: api.OpInstance, Dst: k.push(), A: looked, Ref: k.typeOf(op.A)})
	}
}

// makeArray adds what makes an array of elements of a type, as many as the uppermost number says.
func (k *translator) makeArray(element string) {
	n := k.pop()
	k.add(api.Ins{Op: api.OpSizeCheck, A: n})
	k.add(api.Ins{Op: api.OpNewArray, Dst: k.push(), A: n, Ref: element})
}

// typeOf is the type that a constant of a class names.
func (k *translator) typeOf(number int) string { return desc.Of(k.pool[number].Text) }

// numbersOf is the type of the elements of the array that NewNumbers makes.
func numbersOf(a int) string {
	if a == opcode.ArrayOfLongs {
		return typeLong
	}
	return typeInt
}
