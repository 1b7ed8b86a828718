package check

import (
	"slices"

	"reglet/api"
	"reglet/desc"
)

// The chapter's words by which its table tells what an instruction does. A fault is noted by the first of them that finds one; behind it the others change nothing.

// refuse notes a fault, if there is one, and none was found till now.
func (k *checker) refuse(is bool, e api.Errno) {
	if is && k.fault == api.OK {
		k.fault = e
	}
}

// take takes the uppermost one off the stack, of whatever type it is.
func (k *checker) take() string {
	last := len(k.state.Stack) - 1
	k.refuse(last < 0, api.ErrStack)
	if k.fault != api.OK {
		return ""
	}
	typ := k.state.Stack[last]
	k.state.Stack = k.state.Stack[:last]
	return typ
}

// pop takes one that must fit a type.
func (k *checker) pop(want string) {
	k.refuse(!k.tree.Fits(k.take(), want), api.ErrType)
}

// popRef takes a reference, and answers its type.
func (k *checker) popRef() string {
	typ := k.take()
	k.refuse(desc.Kind(typ) != api.KindRef, api.ErrType)
	return typ
}

// popRefs takes an array of references, or nothing, and answers the type of what is got out of it.
func (k *checker) popRefs() string {
	typ := k.popRef()
	if typ == typeNull {
		return typeNull
	}
	element := desc.Element(typ)
	k.refuse(desc.Kind(element) != api.KindRef, api.ErrType)
	return element
}

func (k *checker) push(types ...string) {
	for _, typ := range types {
		k.refuse(len(k.state.Stack) >= k.method.Stack, api.ErrStack)
		if k.fault == api.OK {
			k.state.Stack = append(k.state.Stack, typ)
		}
	}
}

// local is a local's type; "": there is no such local, or it is nobody's.
func (k *checker) local(n int) string {
	k.refuse(n >= len(k.state.Locals), api.ErrStack)
	if k.fault != api.OK {
		return ""
	}
	return k.state.Locals[n]
}

// pooled is a constant of the class, that must be of one of these kinds.
func (k *checker) pooled(number int, kinds ...int) api.Const {
	// Constant 0 is none, whatever lies there.
	k.refuse(number == 0 || number >= len(k.class.Pool), api.ErrConst)
	if k.fault != api.OK {
		return api.Const{}
	}
	c := k.class.Pool[number]
	k.refuse(!slices.Contains(kinds, c.Kind), api.ErrConst)
	return c
}

// know asks that a type is known.
func (k *checker) know(typ string) { k.refuse(k.isUnknown(typ), api.ErrKin) }
