package lower_test

import (
	"slices"

	"reglet/api"
	"reglet/desc"
	"reglet/num"
)

// A window is a call's registers.
type window struct {
	m    *machine
	f    api.Func
	regs []any
	// What was thrown, where it goes on at a row's At.
	caught *thing
	over   bool
	given  any
}

// registerCode does a method by its register code.
func registerCode(m *machine, id int, args []any) (any, *thing) {
	f := m.funcs[id]
	w := &window{m: m, f: f, regs: make([]any, len(f.Regs))}
	for i, r := range f.Params {
		w.set(r, args[i])
	}
	for at := 0; ; {
		m.step()
		leads, thrown := w.do(f.Code[at])
		switch {
		case w.over:
			return w.given, nil
		case thrown != nil:
			row := slices.IndexFunc(f.Rows, func(r api.Row) bool { return r.From <= at && at < r.To && m.isCaughtBy(thrown, r.Class) })
			if row < 0 {
				return nil, thrown
			}
			w.caught, at = thrown, f.Rows[row].At
		case leads:
			at = f.Code[at].To
		default:
			at++
		}
	}
}

// set writes a register.
func (w *window) set(r int, v any) {
	if kindOf(v) != w.f.Regs[r] {
		panic("a register holds another kind than its own")
	}
	w.regs[r] = v
}

// Reading what was not written panics: no function may rely on the zeros that would lie there.
func (w *window) int(r int) int32    { return w.regs[r].(int32) }
func (w *window) thing(r int) *thing { return w.regs[r].(*thing) }

// do does an instruction, by the words of layer 10: does it lead to its To, and what does it throw?
func (w *window) do(x api.Ins) (bool, *thing) {
	switch x.Op {
	case api.OpGoto:
		return true, nil
	case api.OpIfInt:
		return num.Holds(x.Num, int64(w.int(x.A)), int64(w.int(x.B))), nil
	case api.OpIfRef:
		other := nothing
		if x.B >= 0 {
			other = w.thing(x.B)
		}
		return (w.thing(x.A) == other) == (x.Num == 0), nil
	case api.OpReturn:
		w.over = true
		if x.A >= 0 {
			w.given = w.regs[x.A]
		}
	case api.OpThrow:
		return false, w.m.throw(w.thing(x.A))
	case api.OpNop:
	case api.OpZeroCheck, api.OpNullCheck, api.OpBoundCheck, api.OpSizeCheck, api.OpStoreCheck, api.OpCastCheck:
		return false, w.check(x)
	case api.OpCall, api.OpCallVirtual, api.OpCallIface, api.OpCallNative:
		return false, w.call(x)
	case api.OpNew, api.OpNewArray:
		return false, w.make(x)
	case api.OpStore:
		w.m.set(w.thing(x.A), int(w.int(x.B)), w.regs[x.C])
	case api.OpPutField:
		w.m.set(w.thing(x.A), int(x.Num), w.regs[x.B])
	case api.OpPutStatic:
		w.m.setStatic(int(x.Num), w.regs[x.A])
	default:
		w.set(x.Dst, w.value(x))
	}
	return false, nil
}

// value is what an instruction writes that does nothing else.
func (w *window) value(x api.Ins) any {
	switch x.Op {
	case api.OpConst:
		return valueOf(w.f.Regs[x.Dst], x.Num)
	case api.OpNull:
		return nothing
	case api.OpText:
		return w.m.string(x.Ref)
	case api.OpMove:
		return w.regs[x.A]
	case api.OpBin:
		_, _, made := num.Kinds(int(x.Num))
		return valueOf(made, num.Two(int(x.Num), wordOf(w.regs[x.A]), wordOf(w.regs[x.B])))
	case api.OpUn:
		_, _, made := num.Kinds(int(x.Num))
		return valueOf(made, num.One(int(x.Num), wordOf(w.regs[x.A])))
	case api.OpLoad:
		return w.thing(x.A).words[w.int(x.B)]
	case api.OpLen:
		return int32(len(w.thing(x.A).words))
	case api.OpGetField:
		return w.thing(x.A).words[x.Num]
	case api.OpGetStatic:
		return w.m.statics[x.Num]
	case api.OpInstance:
		if t := w.thing(x.A); t != nil && w.m.isOf(t, x.Ref) {
			return int32(1)
		}
		return int32(0)
	case api.OpCatch:
		return w.caught
	}
	panic("no instruction")
}

// check answers the fault, if there is one.
func (w *window) check(x api.Ins) *thing {
	fault, is := "", false
	switch x.Op {
	case api.OpZeroCheck:
		fault, is = "ZeroFault", wordOf(w.regs[x.A]) == 0
	case api.OpNullCheck:
		fault, is = "NullFault", w.thing(x.A) == nil
	case api.OpBoundCheck:
		i := w.int(x.B)
		fault, is = "BoundsFault", i < 0 || int(i) >= len(w.thing(x.A).words)
	case api.OpSizeCheck:
		fault, is = "SizeFault", w.int(x.A) < 0
	case api.OpStoreCheck:
		v := w.thing(x.B)
		fault, is = "StoreFault", v != nil && !w.m.isOf(v, desc.Element(w.thing(x.A).typ))
	case api.OpCastCheck:
		t := w.thing(x.A)
		fault, is = "CastFault", t != nil && !w.m.isOf(t, x.Ref)
	}
	if !is {
		return nil
	}
	return w.m.fault(fault)
}

func (w *window) make(x api.Ins) *thing {
	var t, thrown *thing
	if x.Op == api.OpNewArray {
		t, thrown = w.m.newArray(x.Ref, int(w.int(x.A)))
	} else {
		info, _ := w.m.world.Info(int(x.Num))
		t, thrown = w.m.newObject(info.Name)
	}
	if thrown == nil {
		w.set(x.Dst, t)
	}
	return thrown
}

func (w *window) call(x api.Ins) *thing {
	var args []any
	for _, r := range x.Args {
		args = append(args, w.regs[r])
	}
	var given any
	var thrown *thing
	switch x.Op {
	case api.OpCall:
		given, thrown = w.m.method(int(x.Num), args)
	case api.OpCallVirtual:
		given, thrown = w.m.inSlot(int(x.Num), args)
	case api.OpCallIface:
		given, thrown = w.m.named(x.Ref, args)
	case api.OpCallNative:
		given, thrown = w.m.native(int(x.Num), args)
	}
	if thrown == nil && x.Dst >= 0 {
		w.set(x.Dst, given)
	}
	return thrown
}
