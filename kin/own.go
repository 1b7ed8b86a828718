package kin

import "reglet/api"

// Those of the machine's own classes that others speak of.
const (
	object    = "Object"
	text      = "String"
	system    = "Sys"
	throwable = "Throwable"
	exception = "Exception"
)

// ownClasses are the machine's own classes, in their order.
func ownClasses() []api.Class {
	classes := []api.Class{
		{Name: object},
		{Name: text, Super: object},
		{Name: system, Super: object},
		{Name: throwable, Super: object},
		{Name: exception, Super: throwable},
		{Name: "NullFault", Super: exception},
		{Name: "ZeroFault", Super: exception},
		{Name: "BoundsFault", Super: exception},
		{Name: "SizeFault", Super: exception},
		{Name: "CastFault", Super: exception},
		{Name: "StoreFault", Super: exception},
		{Name: "MemoryFault", Super: throwable},
		{Name: "DepthFault", Super: throwable},
	}
	for i, c := range classes {
		classes[i].Methods = methodsOf(c.Name)
	}
	return classes
}

// An ownMethod is one of the machine's own methods.
type ownMethod struct {
	class, name, descriptor string
	flags                   int
}

// ownMethods are the machine's own methods by their numbers.
func ownMethods() []ownMethod {
	return []ownMethod{
		api.NativePrintInt:  {system, "print", "(I)V", api.FlagStatic},
		api.NativePrintLong: {system, "print", "(J)V", api.FlagStatic},
		api.NativePrintText: {system, "print", "(LString;)V", api.FlagStatic},
		api.NativeExit:      {system, "exit", "(I)V", api.FlagStatic},
		api.NativeLength:    {text, "length", "()I", 0},
		api.NativeCharAt:    {text, "charAt", "(I)I", 0},
	}
}

// methodsOf are those of one of the machine's own classes.
func methodsOf(class string) []api.Method {
	var methods []api.Method
	for _, m := range ownMethods() {
		if m.class == class {
			methods = append(methods, api.Method{Flags: m.flags, Name: m.name, Desc: m.descriptor})
		}
	}
	return methods
}
