package press

import (
	"reglet/api"
	"reglet/desc"
	"reglet/file"
)

// How many bytes a number has; kinds and a frame's types are told by smaller ones, what ints and longs are by wider ones.
const (
	smallBytes  = 1
	numberBytes = 2
	intBytes    = 4
	longBytes   = 8
)

// The bytes of a frame's types.
const (
	byteNobody = 0
	byteInt    = 1
	byteLong   = 2
	byteNull   = 3
	byteClass  = 4
)

// A frame's types that are no descriptors of a class or an array.
const (
	typeNobody = ""
	typeInt    = "I"
	typeLong   = "J"
	typeNull   = "N"
)

// A writer lays a class out as a file. It judges nothing: what can't be written is written wrong, and found when the file is parsed.
type writer struct {
	written []byte
	// The number of each constant that there is; of equal ones that of the first.
	numbers map[api.Const]int
}

// numberConstants finds the constants' numbers.
func numberConstants(pool []api.Const) map[api.Const]int {
	numbers := map[api.Const]int{}
	for i, c := range pool {
		// 0 means that it isn't there: so constant 0 is none, whatever lies there.
		if numbers[c] == 0 {
			numbers[c] = i
		}
	}
	return numbers
}

// file writes all.
func (w *writer) file(c api.Class) {
	w.add(file.Magic)
	w.pool(c.Pool)
	w.number(c.Flags)
	w.class(c.Name)
	w.class(c.Super)
	w.number(len(c.Ifaces))
	for _, name := range c.Ifaces {
		w.class(name)
	}
	w.number(len(c.Fields))
	for _, f := range c.Fields {
		w.member(f.Flags, f.Name, f.Desc)
	}
	w.number(len(c.Methods))
	for _, m := range c.Methods {
		w.method(m)
	}
}

func (w *writer) pool(pool []api.Const) {
	w.number(len(pool))
	for i, c := range pool {
		if i > 0 {
			w.constant(c)
		}
	}
}

// constant writes a constant of the pool. Of a kind that there is none there is no more than the kind's byte.
func (w *writer) constant(c api.Const) {
	w.wide(int64(c.Kind), smallBytes)
	switch c.Kind {
	case api.ConstText:
		w.number(len(c.Text))
		w.add(c.Text)
	case api.ConstInt:
		w.wide(c.Num, intBytes)
	case api.ConstLong:
		w.wide(c.Num, longBytes)
	case api.ConstClass, api.ConstString:
		w.text(c.Text)
	case api.ConstField, api.ConstMethod, api.ConstIface:
		w.class(c.Text)
		w.text(c.Name)
		w.text(c.Desc)
	}
}

// member writes what fields and methods have.
func (w *writer) member(flags int, name, descriptor string) {
	w.number(flags)
	w.text(name)
	w.text(descriptor)
}

func (w *writer) method(m api.Method) {
	w.member(m.Flags, m.Name, m.Desc)
	if m.Flags&api.FlagAbstract != 0 {
		return
	}
	w.number(m.Stack)
	w.number(m.Locals)
	w.number(len(m.Code))
	w.add(string(m.Code))
	w.number(len(m.Rows))
	for _, r := range m.Rows {
		w.row(r)
	}
	w.number(len(m.Frames))
	for _, f := range m.Frames {
		w.frame(f)
	}
}

func (w *writer) row(r api.Row) {
	w.number(r.From)
	w.number(r.To)
	w.number(r.At)
	// No class is named "", so that a row for all has number 0, as it must.
	w.class(r.Class)
}

func (w *writer) frame(f api.Frame) {
	w.number(f.Pc)
	w.frameTypes(f.Locals)
	w.frameTypes(f.Stack)
}

func (w *writer) frameTypes(types []string) {
	w.wide(int64(len(types)), smallBytes)
	for _, s := range types {
		w.frameType(s)
	}
}

func (w *writer) frameType(s string) {
	switch s {
	case typeNobody:
		w.wide(byteNobody, smallBytes)
	case typeInt:
		w.wide(byteInt, smallBytes)
	case typeLong:
		w.wide(byteLong, smallBytes)
	case typeNull:
		w.wide(byteNull, smallBytes)
	default:
		w.wide(byteClass, smallBytes)
		w.class(classOf(s))
	}
}

// classOf is what a class constant has as its text, so that it stands for that type.
func classOf(s string) string {
	if desc.Element(s) != "" {
		return s
	}
	return desc.Class(s)
}

// text and class write the number of such a constant.
func (w *writer) text(s string)  { w.named(api.Const{Kind: api.ConstText, Text: s}) }
func (w *writer) class(s string) { w.named(api.Const{Kind: api.ConstClass, Text: s}) }

// named writes a constant's number: 0, if it isn't there.
func (w *writer) named(c api.Const) { w.number(w.numbers[c]) }

// number writes a number as most of them are.
func (w *writer) number(n int) { w.wide(int64(n), numberBytes) }

// wide writes a number of so many bytes, the highest first. Of one that doesn't fit the upper bits are lost.
func (w *writer) wide(n int64, bytes int) {
	told := make([]byte, bytes)
	for i := range told {
		told[i] = byte(n >> (8 * (bytes - 1 - i)))
	}
	w.add(string(told))
}

// add writes bytes as they are. What is too long for a file grows no further: it is refused at whatever length.
func (w *writer) add(s string) {
	if len(w.written) <= api.MaxFile {
		w.written = append(w.written, s...)
	}
}
