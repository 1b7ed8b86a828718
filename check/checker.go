package check

import (
	"cmp"
	"slices"

	"reglet/api"
	"reglet/code"
	"reglet/desc"
	"reglet/kin"
)

// A checker looks at one method, by the chapter's steps.
type checker struct {
	tree   *kin.Tree
	class  api.Class
	method api.Method

	// What the steps find out of the method: its instructions, what it gives back, its frames by their places.
	ops    []api.Op
	gives  string
	frames map[int]State
	// The classes that were asked for till now.
	classes map[string]asked

	// The state that is under way. None is known behind an instruction that ends.
	state State
	known bool
	// The first fault of the instruction that is under way.
	fault api.Errno
	// The states ahead of the instructions till here.
	states []State
}

// begin is step 1: what can be told of the method without its instructions' meaning, and its first state.
func (k *checker) begin() api.Errno {
	ops, e := code.Decode(k.method.Code)
	if e != api.OK {
		return e
	}
	if !isWithin(k.method.Stack, api.MaxStack) || !isWithin(k.method.Locals, api.MaxLocals) {
		return api.ErrArg
	}
	params, gives, e := desc.Method(k.method.Desc)
	if e != api.OK {
		return e
	}
	if slices.ContainsFunc(params, k.isUnknown) || gives != noType && k.isUnknown(gives) {
		return api.ErrKin
	}
	locals := params
	if !isStatic(k.method.Flags) {
		locals = append([]string{k.ownType()}, params...)
	}
	if len(locals) > k.method.Locals {
		return api.ErrStack
	}
	k.ops, k.gives = ops, gives
	k.state, k.known = State{Locals: filled(locals, k.method.Locals)}, true
	return api.OK
}

// takeFrames is step 2.
func (k *checker) takeFrames() api.Errno {
	// No place is below 0.
	ahead := -1
	for _, f := range k.method.Frames {
		if f.Pc <= ahead || !k.begins(f.Pc) || len(f.Locals) > k.method.Locals || len(f.Stack) > k.method.Stack {
			return api.ErrFrame
		}
		if e := k.checkTypes(f); e != api.OK {
			return e
		}
		k.frames[f.Pc] = State{Locals: filled(f.Locals, k.method.Locals), Stack: f.Stack}
		ahead = f.Pc
	}
	return api.OK
}

// checkTypes looks at a frame's types.
func (k *checker) checkTypes(f api.Frame) api.Errno {
	for _, typ := range f.Locals {
		if typ != "" && typ != typeNull && k.isUnknown(typ) {
			return api.ErrKin
		}
	}
	for _, typ := range f.Stack {
		if typ == "" {
			return api.ErrFrame
		}
		if typ != typeNull && k.isUnknown(typ) {
			return api.ErrKin
		}
	}
	return api.OK
}

// checkRows is step 3.
func (k *checker) checkRows() api.Errno {
	for _, r := range k.method.Rows {
		if e := k.checkRow(r); e != api.OK {
			return e
		}
	}
	return api.OK
}

func (k *checker) checkRow(r api.Row) api.Errno {
	reachesEnd := r.To == len(k.method.Code)
	if r.From >= r.To || !k.begins(r.From) || !reachesEnd && !k.begins(r.To) || !k.begins(r.At) {
		return api.ErrPlace
	}
	caught := typeThrowable
	if r.Class != "" {
		caught = desc.Of(r.Class)
	}
	if !k.tree.Fits(caught, typeThrowable) {
		return api.ErrKin
	}
	frame, there := k.frames[r.At]
	if !there || len(frame.Stack) != 1 {
		return api.ErrFrame
	}
	if !k.tree.Fits(caught, frame.Stack[0]) {
		return api.ErrType
	}
	return api.OK
}

// begins: does an instruction begin at a place?
func (k *checker) begins(place int) bool {
	_, there := slices.BinarySearchFunc(k.ops, place, func(op api.Op, place int) int { return cmp.Compare(op.Pc, place) })
	return there
}

func (k *checker) isUnknown(typ string) bool { return !k.tree.Known(typ) }

// ownType is the type of the method's class.
func (k *checker) ownType() string { return desc.Of(k.class.Name) }

// isWithin: is it a number from 0 to a limit?
func isWithin(n, limit int) bool { return n >= 0 && n <= limit }

func isStatic(flags int) bool { return flags&api.FlagStatic != 0 }
