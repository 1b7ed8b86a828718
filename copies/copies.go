// Package copies copies classes and methods with all that they lead to, for those who hand out what they hold, or hold what they are handed: a copy shares no list with what it was made of.
package copies

import (
	"slices"

	"reglet/api"
)

// Class is a copy of a class.
func Class(c api.Class) api.Class {
	c.Ifaces = slices.Clone(c.Ifaces)
	c.Pool = slices.Clone(c.Pool)
	c.Fields = slices.Clone(c.Fields)
	c.Methods = each(c.Methods, Method)
	return c
}

// Method is a copy of a method.
func Method(m api.Method) api.Method {
	m.Code = slices.Clone(m.Code)
	m.Rows = slices.Clone(m.Rows)
	m.Frames = each(m.Frames, frame)
	return m
}

func frame(f api.Frame) api.Frame {
	f.Locals = slices.Clone(f.Locals)
	f.Stack = slices.Clone(f.Stack)
	return f
}

// each copies a list of things that hold lists.
func each[T any](l []T, copyOne func(T) T) []T {
	copies := slices.Clone(l)
	for i, one := range l {
		copies[i] = copyOne(one)
	}
	return copies
}
