package ins

import (
	"slices"

	"reglet/api"
	"reglet/desc"
	"reglet/num"
)

const (
	// A method may have an object beside its parameters.
	maxArgs = api.MaxParams + 1

	// The Ops of the table stand from the first one to the last.
	firstOp = api.OpConst
	lastOp  = api.OpNop

	lastIntCond = 5
	lastRefCond = 1
)

// registersFit: are a function's registers, its Params among them, and what it gives back as they may be?
func registersFit(f api.Func) bool {
	if len(f.Regs) > api.MaxIns || len(f.Params) > maxArgs || !isKind(f.Ret) && f.Ret != noKind {
		return false
	}
	for _, kind := range f.Regs {
		if !isKind(kind) {
			return false
		}
	}
	for i, r := range f.Params {
		if !isAt(r, len(f.Regs)) || slices.Contains(f.Params[:i], r) {
			return false
		}
	}
	return true
}

func isKind(kind int) bool { return kind >= api.KindInt && kind <= api.KindRef }

// isAt: is it a number from 0 on, and below n?
func isAt(i, n int) bool { return i >= 0 && i < n }

// codeFits: is each instruction as it may be, by itself and at its place?
func codeFits(f api.Func) bool {
	n := len(f.Code)
	if n < 1 || n > api.MaxIns || !Ends(f.Code[n-1]) {
		return false
	}
	for i, x := range f.Code {
		if x.Op < firstOp || x.Op > lastOp || !kindsFit(f, x) || !restFits(f, x) {
			return false
		}
		if Leads(x) && (!isAt(x.To, n) || f.Code[x.To].Op == api.OpCatch) {
			return false
		}
		if x.Op == api.OpCatch && (i == 0 || !Ends(f.Code[i-1])) {
			return false
		}
	}
	return true
}

// kindsFit: may the registers of an instruction stand where they stand?
func kindsFit(f api.Func, x api.Ins) bool {
	need := fieldsOf(x.Op)
	return mayBe(f, x.Dst, need.writes) && mayBe(f, x.A, need.reads[0]) && mayBe(f, x.B, need.reads[1]) && mayBe(f, x.C, need.reads[2])
}

// mayBe: is it a register of one of the kinds, or none where none may be?
func mayBe(f api.Func, r int, k kinds) bool {
	switch {
	case k == unneeded:
		return true
	case r == noRegister:
		return k.has(noKind)
	}
	return isAt(r, len(f.Regs)) && k.has(f.Regs[r])
}

// kindOf is the kind of a register that is known to be one, or none.
func kindOf(f api.Func, r int) int {
	if r == noRegister {
		return noKind
	}
	return f.Regs[r]
}

// restFits: do the registers of an instruction go together, and has it what else the table asks for? Their kinds must be known to fit one by one.
func restFits(f api.Func, x api.Ins) bool {
	switch x.Op {
	case api.OpConst:
		return kindOf(f, x.Dst) == api.KindLong || x.Num == int64(int32(x.Num))
	case api.OpMove:
		return kindOf(f, x.Dst) == kindOf(f, x.A)
	case api.OpBin:
		return computes(x.Num, kindOf(f, x.A), kindOf(f, x.B), kindOf(f, x.Dst))
	case api.OpUn:
		return computes(x.Num, kindOf(f, x.A), noKind, kindOf(f, x.Dst))
	case api.OpCastCheck, api.OpNewArray, api.OpInstance:
		return desc.Type(x.Ref)
	case api.OpGetField, api.OpPutField:
		return x.Num >= 0
	case api.OpCall, api.OpCallNative:
		return x.Num >= 0 && argsFit(f, x.Args)
	case api.OpCallVirtual:
		return x.Num >= 0 && argsFit(f, x.Args) && hasObject(f, x.Args)
	case api.OpCallIface:
		return argsFit(f, x.Args) && hasObject(f, x.Args)
	case api.OpIfInt:
		return x.Num >= 0 && x.Num <= lastIntCond
	case api.OpIfRef:
		return x.Num >= 0 && x.Num <= lastRefCond
	case api.OpReturn:
		return kindOf(f, x.A) == f.Ret
	}
	return true
}

// computes: is it the code of what makes the third kind of the first two?
func computes(code int64, a, b, made int) bool {
	first, second, result := num.Kinds(int(code))
	// Where an int has fewer than 64 bits, what is left of the number may be another one's code.
	return int64(int(code)) == code && first == a && second == b && result == made
}

// argsFit: are they registers, and not too many?
func argsFit(f api.Func, args []int) bool {
	if len(args) > maxArgs {
		return false
	}
	for _, r := range args {
		if !isAt(r, len(f.Regs)) {
			return false
		}
	}
	return true
}

// hasObject: is there a first argument, and a reference?
func hasObject(f api.Func, args []int) bool {
	return len(args) > 0 && kindOf(f, args[0]) == api.KindRef
}

// rowsFit: is each row about some places, and leads to where a thing is caught?
func rowsFit(f api.Func) bool {
	n := len(f.Code)
	for _, r := range f.Rows {
		if r.From < 0 || r.From >= r.To || r.To > n || !isAt(r.At, n) || f.Code[r.At].Op != api.OpCatch {
			return false
		}
	}
	return true
}
