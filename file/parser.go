package file

import (
	"reglet/api"
	"reglet/desc"
	"reglet/pool"
)

// How many bytes a number has; a frame tells its types by smaller ones.
const (
	numberBytes = 2
	smallBytes  = 1
)

// The bytes of a frame's types.
const (
	byteNobody = 0
	byteInt    = 1
	byteLong   = 2
	byteNull   = 3
	byteClass  = 4
)

// A frame's types that are no descriptors of a class or an array.
const (
	typeNobody = ""
	typeInt    = "I"
	typeLong   = "J"
	typeNull   = "N"
)

// A row that names no class catches all.
const catchesAll = 0

// A parser reads a class file from the front, part by part. It throws the error that it meets, so that nothing behind is looked at.
type parser struct {
	*pool.Reader
	consts []api.Const
	// The class's flags: by them its members' are judged.
	flags int
}

// refuse gives the class up, if something is wrong with it.
func refuse(wrong bool, e api.Errno) {
	if wrong {
		panic(e)
	}
}

// file reads all.
func (p *parser) file() api.Class {
	// Bytes that are missing are met as another text: that they are isn't asked.
	refuse(p.Take(len(Magic)) != Magic, api.ErrMagic)
	consts, e := pool.Read(p.Reader)
	refuse(e != api.OK, e)
	p.consts = consts
	c := p.class()
	left, _ := p.Left()
	refuse(left > 0, api.ErrEnd)
	refuse(anyTwice(fieldKeys(c.Fields)) || anyTwice(methodKeys(c.Methods)), api.ErrTwice)
	return c
}

// class reads what stands behind the pool.
func (p *parser) class() api.Class {
	p.flags = p.someFlags(api.FlagIface | api.FlagAbstract)
	refuse(p.flags == api.FlagIface, api.ErrFlags)
	c := api.Class{Flags: p.flags, Pool: p.consts}
	c.Name = p.className()
	c.Super = p.className()
	c.Ifaces = list(p.count(numberBytes, api.MaxIfaces), p.className)
	c.Fields = list(p.count(numberBytes, api.MaxFields), p.field)
	c.Methods = list(p.count(numberBytes, api.MaxMethods), p.method)
	return c
}

func (p *parser) field() api.Field {
	f := api.Field{Flags: p.someFlags(api.FlagStatic)}
	f.Name, f.Desc = p.nameAndDescriptor()
	refuse(!desc.Name(f.Name, false), api.ErrName)
	refuse(!desc.Type(f.Desc), api.ErrDesc)
	refuse(p.flags&api.FlagIface != 0 && f.Flags == 0, api.ErrFlags)
	return f
}

func (p *parser) method() api.Method {
	m := api.Method{Flags: p.someFlags(api.FlagStatic | api.FlagAbstract)}
	m.Name, m.Desc = p.nameAndDescriptor()
	refuse(!desc.Name(m.Name, true), api.ErrName)
	_, _, e := desc.Method(m.Desc)
	refuse(e != api.OK, e)
	// An abstract method ends here, so that this is also behind the whole of it.
	refuse(!methodFits(p.flags, m.Flags), api.ErrFlags)
	if m.Flags&api.FlagAbstract == 0 {
		p.body(&m)
	}
	return m
}

// body reads what only a method with code has.
func (p *parser) body(m *api.Method) {
	m.Stack = p.count(numberBytes, api.MaxStack)
	m.Locals = p.count(numberBytes, api.MaxLocals)
	m.Code = []byte(p.Take(p.count(numberBytes, api.MaxCode)))
	p.refuseCutOff()
	m.Rows = list(p.count(numberBytes, api.MaxRows), p.row)
	m.Frames = list(p.count(numberBytes, api.MaxCode), p.frame)
}

func (p *parser) row() api.Row {
	var r api.Row
	r.From = p.number(numberBytes)
	r.To = p.number(numberBytes)
	r.At = p.number(numberBytes)
	r.Class = p.caught()
	return r
}

// caught reads the class that a row catches.
func (p *parser) caught() string {
	i := p.number(numberBytes)
	if i == catchesAll {
		return ""
	}
	class := p.constantAt(i, api.ConstClass).Text
	refuse(isArray(class), api.ErrConst)
	return class
}

func (p *parser) frame() api.Frame {
	f := api.Frame{Pc: p.number(numberBytes)}
	f.Locals = list(p.count(smallBytes, api.MaxLocals), p.frameType)
	f.Stack = list(p.count(smallBytes, api.MaxStack), p.frameType)
	return f
}

// frameType reads one of a frame's types.
func (p *parser) frameType() string {
	switch p.number(smallBytes) {
	case byteNobody:
		return typeNobody
	case byteInt:
		return typeInt
	case byteLong:
		return typeLong
	case byteNull:
		return typeNull
	case byteClass:
		return desc.Of(p.constant(api.ConstClass).Text)
	}
	panic(api.ErrFrame)
}

// className reads the name of a class that may be no array.
func (p *parser) className() string {
	name := p.constant(api.ConstClass).Text
	refuse(isArray(name), api.ErrName)
	return name
}

// nameAndDescriptor reads a member's. What they say is judged when both are there.
func (p *parser) nameAndDescriptor() (string, string) {
	name := p.constant(api.ConstText).Text
	descriptor := p.constant(api.ConstText).Text
	return name, descriptor
}

// someFlags reads flags that may have only these bits.
func (p *parser) someFlags(bits int) int {
	flags := p.number(numberBytes)
	refuse(flags&^bits != 0, api.ErrFlags)
	return flags
}

// constant reads the number of a constant of that kind, and is that constant.
func (p *parser) constant(kind int) api.Const {
	return p.constantAt(p.number(numberBytes), kind)
}

// constantAt is constant i. (Constant 0 has no kind, so that nobody can mean it.)
func (p *parser) constantAt(i, kind int) api.Const {
	refuse(i >= len(p.consts) || p.consts[i].Kind != kind, api.ErrConst)
	return p.consts[i]
}

// count reads how many there are of what there may be so many of at most.
func (p *parser) count(bytes, most int) int {
	n := p.number(bytes)
	refuse(n > most, api.ErrLong)
	return n
}

// number reads a number of so many bytes.
func (p *parser) number(bytes int) int {
	n := int(p.Num(bytes))
	p.refuseCutOff()
	return n
}

// refuseCutOff gives the class up, if bytes were missing.
func (p *parser) refuseCutOff() {
	_, whole := p.Left()
	refuse(!whole, api.ErrEnd)
}

// list reads n things of one kind.
func list[T any](n int, read func() T) []T {
	var things []T
	for range n {
		things = append(things, read())
	}
	return things
}

// methodFits: may a class with these flags have a method with those?
func methodFits(class, method int) bool {
	if method&api.FlagAbstract == 0 {
		return class&api.FlagIface == 0
	}
	return class&api.FlagAbstract != 0 && method&api.FlagStatic == 0
}

// isArray: is it, of what a class constant may name, an array's type? (Of those alone one has an element.)
func isArray(s string) bool { return desc.Element(s) != "" }
