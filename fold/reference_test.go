package fold_test

import (
	"reflect"
	"slices"
	"testing"

	"reglet/api"
	"reglet/flow"
	"reglet/fold"
	"reglet/ins"
	"reglet/num"
)

// The reference reads the chapter's words as they stand: what is known at a place it tells by walking back from there to the beginning of the block. What layers 1, 10 and 11 answer of numbers, instructions and blocks it takes as it says.

// A reference has some instructions, and of each place the one at which its block in the function begins, and the register that is written.
type reference struct {
	code        []api.Ins
	heads, defs []int
}

func referenceOf(f api.Func, code []api.Ins) reference {
	w := reference{code: code}
	heads := flow.Heads(f)
	for i, x := range code {
		if len(heads) > 1 && heads[1] == i {
			heads = heads[1:]
		}
		w.heads, w.defs = append(w.heads, heads[0]), append(w.defs, ins.Def(x))
	}
	return w
}

// known: what lies in a register at a place, if an OpConst wrote it ahead in the same block, and none behind that did.
func (w reference) known(at, r int) (int64, bool) {
	for i := at - 1; i >= w.heads[at]; i-- {
		if w.defs[i] == r {
			return w.code[i].Num, w.code[i].Op == 1
		}
	}
	return 0, false
}

// folded is what an instruction is over registers that are all known; false, if they aren't, or if it isn't one that may be put otherwise.
func (w reference) folded(at int, x api.Ins) (api.Ins, bool) {
	if x.Op != 4 && x.Op != 5 && x.Op != 6 && x.Op != 28 {
		return x, false
	}
	var l []int64
	for _, r := range ins.Uses(x) {
		n, is := w.known(at, r)
		if !is {
			return x, false
		}
		l = append(l, n)
	}
	switch {
	case x.Op == 4:
		return api.Ins{Op: 1, Dst: x.Dst, Num: l[0]}, true
	case x.Op == 5:
		return api.Ins{Op: 1, Dst: x.Dst, Num: num.Two(int(x.Num), l[0], l[1])}, true
	case x.Op == 6:
		return api.Ins{Op: 1, Dst: x.Dst, Num: num.One(int(x.Num), l[0])}, true
	case num.Holds(x.Num, l[0], l[1]):
		return api.Ins{Op: 27, To: x.To}, true
	}
	return api.Ins{Op: 33}, true
}

// checkShape: the output has as many instructions as the function, and all else of it is the same.
func checkShape(t *testing.T, f, g api.Func) {
	t.Helper()
	if !slices.Equal(g.Regs, f.Regs) || !slices.Equal(g.Params, f.Params) || g.Ret != f.Ret || !slices.Equal(g.Rows, f.Rows) {
		t.Fatalf("%s becomes %s", told(f), told(g))
	}
	if len(g.Code) != len(f.Code) {
		t.Fatalf("%s becomes %s: %d instructions", told(f), told(g), len(g.Code))
	}
}

// checkFolded: what f's own OpConsts make known is folded; what those of the output make known is folded too, moves as well; all else is as it was.
func checkFolded(t *testing.T, f, g api.Func) {
	t.Helper()
	own, output := referenceOf(f, f.Code), referenceOf(f, g.Code)
	for i, x := range f.Code {
		got := g.Code[i]
		if want, must := own.folded(i, x); must && x.Op != 4 && !reflect.DeepEqual(got, want) {
			t.Fatalf("%s becomes %s: at %d it has %+v, though by its own numbers it is %+v", told(f), told(g), i, got, want)
		}
		if want, _ := output.folded(i, x); !reflect.DeepEqual(got, want) {
			t.Fatalf("%s becomes %s: at %d it has %+v, want %+v", told(f), told(g), i, got, want)
		}
	}
}

// checkPass holds Pass at a function against all that is promised of the output, but for what it does, and answers it.
func checkPass(t *testing.T, f api.Func) api.Func {
	t.Helper()
	g := fold.Pass(f)
	if ins.Check(f) != api.OK {
		if !reflect.DeepEqual(g, f) {
			t.Fatalf("%s isn't well formed, but becomes %s", told(f), told(g))
		}
		return g
	}
	checkShape(t, f, g)
	if e := ins.Check(g); e != api.OK {
		t.Fatalf("%s becomes %s: %v", told(f), told(g), e)
	}
	if flow.Set(f) && !flow.Set(g) {
		t.Fatalf("%s sets what it reads, but becomes %s", told(f), told(g))
	}
	checkFolded(t, f, g)
	return g
}

// checkAll is checkPass, and holds what the function does against what the output does, and what becomes of that.
func checkAll(t *testing.T, f api.Func) api.Func {
	t.Helper()
	g := checkPass(t, f)
	if ins.Check(f) == api.OK {
		checkSame(t, f, g)
		checkAgain(t, f, g)
	}
	return g
}

// checkAgain: Pass of what Pass gave does the same still, also if it is trimmed between, again and again.
func checkAgain(t *testing.T, f, g api.Func) {
	t.Helper()
	checkSame(t, f, checkPass(t, g))
	for range 3 {
		trimmed := flow.Trim(g)
		g = checkPass(t, trimmed)
		checkSameTrimmed(t, f, trimmed)
		checkSameTrimmed(t, f, g)
	}
}
