package lower_test

import (
	"slices"

	"reglet/api"
	"reglet/code"
	"reglet/desc"
	"reglet/num"
)

// A stackMethod is a method as its class has it.
type stackMethod struct {
	api.Method
	pool []api.Const
	ops  []api.Op
}

// at is the number of the instruction at a place.
func (s *stackMethod) at(place int) int {
	i := slices.IndexFunc(s.ops, func(op api.Op) bool { return op.Pc == place })
	if i < 0 {
		panic("no instruction begins there")
	}
	return i
}

// A frame is a call's, by the stack code.
type frame struct {
	m      *machine
	pool   []api.Const
	locals []any
	stack  []any
	// Where it goes on; -1: at the next instruction.
	way int
	// Whether it is over, and what is given back.
	over  bool
	given any
}

// stackCode does a method by its stack code.
func stackCode(m *machine, id int, args []any) (any, *thing) {
	s := m.stack[id]
	f := &frame{m: m, pool: s.pool, locals: make([]any, s.Locals)}
	copy(f.locals, args)
	for i := 0; ; {
		m.step()
		op := s.ops[i]
		f.way = -1
		thrown := f.do(op)
		if thrown != nil {
			row := slices.IndexFunc(s.Rows, func(r api.Row) bool { return r.From <= op.Pc && op.Pc < r.To && m.isCaughtBy(thrown, r.Class) })
			if row < 0 {
				return nil, thrown
			}
			f.stack, f.way = []any{thrown}, s.Rows[row].At
		} else {
			m.codes[op.Code]++
		}
		switch {
		case f.over:
			return f.given, nil
		case f.way >= 0:
			i = s.at(f.way)
		default:
			i++
		}
	}
}

func (f *frame) push(l ...any) { f.stack = append(f.stack, l...) }

func (f *frame) pop() any {
	v := f.stack[len(f.stack)-1]
	f.stack = f.stack[:len(f.stack)-1]
	return v
}

func (f *frame) popInt() int32 { return f.pop().(int32) }

func (f *frame) popThing() *thing { return f.pop().(*thing) }

// pops are the uppermost ones, the last one last.
func (f *frame) pops(n int) []any {
	l := slices.Clone(f.stack[len(f.stack)-n:])
	f.stack = f.stack[:len(f.stack)-n]
	return l
}

func (f *frame) give(v any) { f.over, f.given = true, v }

// do does an instruction, by the chapter's words.
func (f *frame) do(op api.Op) *thing {
	switch c := op.Code; c {
	case 0:
	case 1:
		f.push(nothing)
	case 2, 3, 4, 5, 6, 7, 8:
		f.push(int32(c - 3))
	case 9, 10:
		f.push(int64(c - 9))
	case 16, 17:
		f.push(int32(op.A))
	case 19:
		f.push(f.constant(f.pool[op.A]))
	case 21, 22, 25:
		f.push(f.locals[op.A])
	case 54, 55, 58:
		f.locals[op.A] = f.pop()
	case 87:
		f.pop()
	case 89:
		a := f.pop()
		f.push(a, a)
	case 90:
		a, b := f.pop(), f.pop()
		f.push(a, b, a)
	case 95:
		a, b := f.pop(), f.pop()
		f.push(a, b)
	case 132:
		f.locals[op.A] = f.locals[op.A].(int32) + int32(op.B)
	case 167:
		f.way = op.A
	case 172, 173, 176:
		f.give(f.pop())
	case 177:
		f.give(nil)
	case 46, 47, 50, 79, 80, 83:
		return f.element(c)
	case 178, 179, 180, 181:
		return f.field(c, f.pool[op.A])
	case 182, 183, 184, 185:
		return f.call(c, f.pool[op.A])
	case 187, 188, 189, 190, 191, 192, 193:
		return f.thing(op)
	default:
		return f.numbers(op)
	}
	return nil
}

func (f *frame) constant(c api.Const) any {
	switch c.Kind {
	case 3:
		return int32(c.Num)
	case 5:
		return c.Num
	}
	return f.m.string(c.Text)
}

// numbers is of what computes, and of what compares.
func (f *frame) numbers(op api.Op) *thing {
	goOn := func(holds bool) {
		if holds {
			f.way = op.A
		}
	}
	switch c := op.Code; {
	case c >= 153 && c <= 158:
		goOn(num.Holds(int64(c-153), int64(f.popInt()), 0))
	case c >= 159 && c <= 164:
		b, a := f.popInt(), f.popInt()
		goOn(num.Holds(int64(c-159), int64(a), int64(b)))
	case c == 165, c == 166:
		b, a := f.popThing(), f.popThing()
		goOn((a == b) == (c == 165))
	case c == 198, c == 199:
		goOn((f.popThing() == nil) == (c == 198))
	default:
		_, second, made := num.Kinds(c)
		if second == 0 {
			f.push(valueOf(made, num.One(c, wordOf(f.pop()))))
			return nil
		}
		b, a := wordOf(f.pop()), wordOf(f.pop())
		if (c == 108 || c == 109 || c == 112 || c == 113) && b == 0 {
			return f.m.fault("ZeroFault")
		}
		f.push(valueOf(made, num.Two(c, a, b)))
	}
	return nil
}

func (f *frame) element(c int) *thing {
	var v any
	if c >= 79 {
		v = f.pop()
	}
	i, a := f.popInt(), f.popThing()
	switch {
	case a == nil:
		return f.m.fault("NullFault")
	case i < 0 || int(i) >= len(a.words):
		return f.m.fault("BoundsFault")
	case c < 79:
		f.push(a.words[i])
		return nil
	case c == 83 && v.(*thing) != nil && !f.m.isOf(v.(*thing), desc.Element(a.typ)):
		return f.m.fault("StoreFault")
	}
	f.m.set(a, int(i), v)
	return nil
}

func (f *frame) field(c int, x api.Const) *thing {
	word := f.m.world.Word(x.Text, x.Name, x.Desc)
	switch c {
	case 178:
		f.push(f.m.statics[word])
		return nil
	case 179:
		f.m.setStatic(word, f.pop())
		return nil
	}
	var v any
	if c == 181 {
		v = f.pop()
	}
	object := f.popThing()
	switch {
	case object == nil:
		return f.m.fault("NullFault")
	case c == 181:
		f.m.set(object, word, v)
	default:
		f.push(object.words[word])
	}
	return nil
}

func (f *frame) call(c int, x api.Const) *thing {
	params, gives, _ := desc.Method(x.Desc)
	n := len(params)
	if c != 184 {
		n++
	}
	args := f.pops(n)
	if c != 184 && args[0].(*thing) == nil {
		return f.m.fault("NullFault")
	}
	var given any
	var thrown *thing
	if c == 182 || c == 185 {
		given, thrown = f.m.named(x.Name+x.Desc, args)
	} else {
		given, thrown = f.m.method(f.m.world.Find(x.Text, x.Name, x.Desc), args)
	}
	if thrown == nil && gives != "V" {
		f.push(given)
	}
	return thrown
}

// made pushes what was made.
func (f *frame) made(t, thrown *thing) *thing {
	if thrown == nil {
		f.push(t)
	}
	return thrown
}

func (f *frame) thing(op api.Op) *thing {
	text := ""
	if code.Size(op.Code) == 3 {
		text = f.pool[op.A].Text
	}
	switch c := op.Code; c {
	case 187:
		return f.made(f.m.newObject(text))
	case 188, 189:
		element := map[int]string{10: "I", 11: "J"}[op.A]
		if c == 189 {
			element = desc.Of(text)
		}
		n := f.popInt()
		if n < 0 {
			return f.m.fault("SizeFault")
		}
		return f.made(f.m.newArray(element, int(n)))
	}
	t := f.popThing()
	switch c := op.Code; {
	case c == 192 && t != nil && !f.m.isOf(t, desc.Of(text)):
		return f.m.fault("CastFault")
	case c == 192:
		f.push(t)
	case c == 193:
		is := int32(0)
		if t != nil && f.m.isOf(t, desc.Of(text)) {
			is = 1
		}
		f.push(is)
	case t == nil:
		return f.m.fault("NullFault")
	case c == 190:
		f.push(int32(len(t.words)))
	case c == 191:
		return f.m.throw(t)
	}
	return nil
}
