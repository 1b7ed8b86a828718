package check

import (
	"slices"

	"reglet/api"
	"reglet/desc"
	"reglet/opcode"
)

// field is of the four instructions that read fields and write them.
func (k *checker) field(op api.Op) {
	wantsStatic := op.Code == opcode.GetStatic || op.Code == opcode.PutStatic
	writes := op.Code == opcode.PutStatic || op.Code == opcode.PutField
	c := k.pooled(op.A, api.ConstField)
	_, f, there := k.tree.Field(c.Text, c.Name, c.Desc)
	k.refuse(!there || isStatic(f.Flags) != wantsStatic, api.ErrMember)
	k.know(f.Desc)
	if writes {
		k.pop(f.Desc)
	}
	if !wantsStatic {
		k.pop(desc.Of(c.Text))
	}
	if !writes {
		k.push(f.Desc)
	}
}

// call is of the four instructions that call.
func (k *checker) call(op api.Op) {
	c := k.callee(op)
	// Of a descriptor that is none nothing is told: neither are there parameters, nor is known what it gives back.
	params, gives, _ := desc.Method(c.Desc)
	for _, param := range slices.Backward(params) {
		k.know(param)
		k.pop(param)
	}
	switch op.Code {
	case opcode.CallVirtual, opcode.CallIface:
		k.pop(desc.Of(c.Text))
	case opcode.CallJust:
		k.pop(k.ownType())
	}
	if gives != noType {
		k.know(gives)
		k.push(gives)
	}
}

// callee is the constant that names the method that is called, if that may be called so.
func (k *checker) callee(op api.Op) api.Const {
	kind := api.ConstMethod
	if op.Code == opcode.CallIface {
		kind = api.ConstIface
	}
	c := k.pooled(op.A, kind)
	flags, there := k.classFlags(c.Text)
	isInterface := flags&api.FlagIface != 0
	k.refuse(!there || isInterface != (op.Code == opcode.CallIface), api.ErrMember)
	_, m, there := k.tree.Method(c.Text, c.Name, c.Desc)
	k.refuse(!there || isStatic(m.Flags) != (op.Code == opcode.CallStatic), api.ErrMember)
	if op.Code == opcode.CallJust {
		isAbstract := m.Flags&api.FlagAbstract != 0
		k.refuse(isAbstract || !k.tree.Fits(k.ownType(), desc.Of(c.Text)), api.ErrMember)
	}
	return c
}

// thing is of the instructions that make things, measure, throw, or tell them by their types.
func (k *checker) thing(op api.Op) {
	switch op.Code {
	case opcode.New:
		k.push(k.made(op.A))
	case opcode.NewNumbers:
		k.refuse(op.A != opcode.ArrayOfInts && op.A != opcode.ArrayOfLongs, api.ErrType)
		k.pop(typeInt)
		k.push(numbersOf(op.A))
	case opcode.NewRefs:
		typ := openArray + k.pooledType(op.A)
		k.know(typ)
		k.pop(typeInt)
		k.push(typ)
	case opcode.Length:
		typ := k.popRef()
		k.refuse(typ != typeNull && desc.Element(typ) == "", api.ErrType)
		k.push(typeInt)
	case opcode.Throw:
		k.pop(typeThrowable)
	case opcode.Cast:
		k.push(k.looked(op.A))
	case opcode.Is:
		k.looked(op.A)
		k.push(typeInt)
	}
}

// pooledType is the type that a constant of a class names.
func (k *checker) pooledType(number int) string {
	return desc.Of(k.pooled(number, api.ConstClass).Text)
}

// made is the type of the objects that are made of a constant's class.
func (k *checker) made(number int) string {
	name := k.pooled(number, api.ConstClass).Text
	flags, there := k.classFlags(name)
	k.refuse(!there || flags&(api.FlagIface|api.FlagAbstract) != 0 || name == classText || name == classSystem, api.ErrKin)
	return desc.Of(name)
}

// looked takes a thing that is held against a constant's type, and answers that.
func (k *checker) looked(number int) string {
	typ := k.pooledType(number)
	k.know(typ)
	k.popRef()
	return typ
}

// numbersOf is the type of the array that NewNumbers makes.
func numbersOf(a int) string {
	if a == opcode.ArrayOfLongs {
		return typeLongs
	}
	return typeInts
}

// An asked class, as the tree told it.
type asked struct {
	there bool
	flags int
}

// classFlags are a class's flags; false: it isn't there. The tree answers copies of whole classes, so that each is asked for once.
func (k *checker) classFlags(name string) (int, bool) {
	class, before := k.classes[name]
	if !before {
		c, there := k.tree.Class(name)
		class = asked{there: there, flags: c.Flags}
		k.classes[name] = class
	}
	return class.flags, class.there
}
