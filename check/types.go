package check

import "reglet/api"

// Types, and what isn't one.
const (
	typeInt       = "I"
	typeLong      = "J"
	typeNull      = "N"
	typeInts      = "[I"
	typeLongs     = "[J"
	typeText      = "LString;"
	typeThrowable = "LThrowable;"
	// noType is what a method gives back that gives nothing back.
	noType = "V"
	// openArray is what the type of an array begins with, ahead of its elements' type.
	openArray = "["
)

// Those of the machine's own classes of which no program makes objects.
const (
	classText   = "String"
	classSystem = "Sys"
)

// typeOf is the type of numbers of a kind.
func typeOf(kind int) string {
	if kind == api.KindLong {
		return typeLong
	}
	return typeInt
}
