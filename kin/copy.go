package kin

import (
	"slices"

	"reglet/api"
)

// copyClass copies all that a class leads to: the tree shares no list with who hands classes in or is answered them.
func copyClass(c api.Class) api.Class {
	c.Ifaces = slices.Clone(c.Ifaces)
	c.Pool = slices.Clone(c.Pool)
	c.Fields = slices.Clone(c.Fields)
	c.Methods = copyEach(c.Methods, copyMethod)
	return c
}

func copyMethod(m api.Method) api.Method {
	m.Code = slices.Clone(m.Code)
	m.Rows = slices.Clone(m.Rows)
	m.Frames = copyEach(m.Frames, copyFrame)
	return m
}

func copyFrame(f api.Frame) api.Frame {
	f.Locals = slices.Clone(f.Locals)
	f.Stack = slices.Clone(f.Stack)
	return f
}

// copyEach copies a list of things that hold lists.
func copyEach[T any](l []T, copyOne func(T) T) []T {
	copies := slices.Clone(l)
	for i, one := range l {
		copies[i] = copyOne(one)
	}
	return copies
}
