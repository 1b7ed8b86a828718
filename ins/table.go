package ins

import "reglet/api"

// noRegister stands where there may be a register and is none. It has noKind.
const (
	noRegister = -1
	noKind     = 0
)

// kinds is a set of kinds: for each of them the bit of that number.
type kinds uint

// What may stand in a field that tells a register.
const (
	// The Op has no such field: whatever stands there makes no difference.
	unneeded kinds = 0

	nobody  kinds = 1 << noKind
	ints    kinds = 1 << api.KindInt
	longs   kinds = 1 << api.KindLong
	refs    kinds = 1 << api.KindRef
	numbers       = ints | longs
	all           = numbers | refs
)

func (k kinds) has(kind int) bool { return k>>uint(kind)&1 == 1 }

// fields are what the chapter's table says of an Op's registers: of what kinds may be what it writes to Dst, and what it reads from A, B and C.
// Whether they go together (by Num, by each other, by what the function gives back) restFits asks.
type fields struct {
	writes kinds
	reads  [3]kinds
}

// fieldsOf is what an Op needs of its fields; of one outside the table it is nothing.
func fieldsOf(op int) fields {
	switch op {
	case api.OpConst:
		return fields{writes: numbers}
	case api.OpNull, api.OpText, api.OpNew, api.OpCatch:
		return fields{writes: refs}
	case api.OpGetStatic:
		return fields{writes: all}
	case api.OpCall, api.OpCallVirtual, api.OpCallIface, api.OpCallNative:
		return fields{writes: all | nobody}
	case api.OpMove:
		return fields{all, [3]kinds{all}}
	case api.OpBin:
		return fields{numbers, [3]kinds{numbers, numbers}}
	case api.OpUn:
		return fields{numbers, [3]kinds{numbers}}
	case api.OpLoad:
		return fields{all, [3]kinds{refs, ints}}
	case api.OpLen, api.OpInstance:
		return fields{ints, [3]kinds{refs}}
	case api.OpGetField:
		return fields{all, [3]kinds{refs}}
	case api.OpNewArray:
		return fields{refs, [3]kinds{ints}}
	}
	return fields{reads: readsOnly(op)}
}

// readsOnly is what an Op reads that writes nothing.
func readsOnly(op int) [3]kinds {
	switch op {
	case api.OpZeroCheck:
		return [3]kinds{numbers}
	case api.OpNullCheck, api.OpCastCheck, api.OpThrow:
		return [3]kinds{refs}
	case api.OpBoundCheck:
		return [3]kinds{refs, ints}
	case api.OpSizeCheck:
		return [3]kinds{ints}
	case api.OpStoreCheck:
		return [3]kinds{refs, refs}
	case api.OpStore:
		return [3]kinds{refs, ints, all}
	case api.OpPutField:
		return [3]kinds{refs, all}
	case api.OpPutStatic:
		return [3]kinds{all}
	case api.OpIfInt:
		return [3]kinds{ints, ints}
	case api.OpIfRef:
		return [3]kinds{refs, refs | nobody}
	case api.OpReturn:
		return [3]kinds{all | nobody}
	}
	return [3]kinds{}
}
