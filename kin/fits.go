package kin

import (
	"strings"

	"reglet/desc"
)

// typeNull is the type of nothing: it fits where any reference is wanted.
const typeNull = "N"

// What types of classes and of arrays begin with.
const (
	openClass = "L"
	openArray = "["
)

// referenceFits: does the type of a class, or of an array, fit where another one is wanted?
func (t *Tree) referenceFits(typ, want string) bool {
	// One by one in a loop, not each within the other: a text may begin with any number of [.
	for isReference(desc.Element(typ)) && isReference(desc.Element(want)) {
		typ, want = desc.Element(typ), desc.Element(want)
	}
	if strings.HasPrefix(typ, openArray) {
		return want == desc.Of(object)
	}
	return t.above[desc.Class(typ)].has(desc.Class(want))
}

// isReference: does it begin as the type of a class or an array does?
func isReference(s string) bool {
	return strings.HasPrefix(s, openClass) || strings.HasPrefix(s, openArray)
}
