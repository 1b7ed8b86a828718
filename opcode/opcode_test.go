package opcode_test

import (
	"testing"

	"reglet/code"
	"reglet/opcode"
)

// TestEachCodeHasOneName: of those that layer 6 has each is one of these, or stands within a range of them.
func TestEachCodeHasOneName(t *testing.T) {
	names := map[int]int{}
	for _, c := range []int{
		opcode.Nop, opcode.Null, opcode.Long0, opcode.Long1, opcode.Byte, opcode.Short, opcode.Constant,
		opcode.LoadInt, opcode.LoadLong, opcode.LoadRef, opcode.StoreInt, opcode.StoreLong, opcode.StoreRef,
		opcode.GetInt, opcode.GetLong, opcode.GetRef, opcode.PutInt, opcode.PutLong, opcode.PutRef,
		opcode.Pop, opcode.Double, opcode.DoubleLow, opcode.Swap,
		opcode.IfSame, opcode.IfOther, opcode.Goto, opcode.IfNull, opcode.IfThing,
		opcode.ReturnInt, opcode.ReturnLong, opcode.ReturnRef, opcode.Return,
		opcode.GetStatic, opcode.PutStatic, opcode.GetField, opcode.PutField,
		opcode.CallVirtual, opcode.CallJust, opcode.CallStatic, opcode.CallIface,
		opcode.New, opcode.NewNumbers, opcode.NewRefs, opcode.Length, opcode.Throw, opcode.Cast, opcode.Is,
	} {
		names[c]++
	}
	for _, ends := range [][2]int{{opcode.FirstInt, opcode.LastInt}, {opcode.FirstComputes, opcode.LastComputes}, {opcode.FirstIfZero, opcode.LastIfZero}, {opcode.FirstIfInt, opcode.LastIfInt}} {
		if code.Size(ends[0]) == 0 || code.Size(ends[1]) == 0 {
			t.Errorf("%d to %d doesn't begin and end with codes", ends[0], ends[1])
		}
		for c := ends[0]; c <= ends[1]; c++ {
			// Between those that compute some numbers are no codes.
			if code.Size(c) > 0 {
				names[c]++
			}
		}
	}
	for c := range 256 {
		if want := min(code.Size(c), 1); names[c] != want {
			t.Errorf("%d is named %d times, want %d", c, names[c], want)
		}
	}
}

// TestWhatLeads: the ranges of those that compare are of those alone.
func TestWhatLeads(t *testing.T) {
	if opcode.LastIfZero-opcode.FirstIfZero != 5 || opcode.LastIfInt-opcode.FirstIfInt != 5 {
		t.Error("there are six comparisons")
	}
	for _, c := range []int{opcode.FirstIfZero, opcode.LastIfZero, opcode.FirstIfInt, opcode.LastIfInt, opcode.IfSame, opcode.IfOther, opcode.Goto, opcode.IfNull, opcode.IfThing} {
		if !code.Leads(c) {
			t.Errorf("%d doesn't lead", c)
		}
	}
	for _, c := range []int{opcode.Goto, opcode.ReturnInt, opcode.ReturnLong, opcode.ReturnRef, opcode.Return, opcode.Throw} {
		if !code.Ends(c) {
			t.Errorf("%d doesn't end", c)
		}
	}
	if code.Size(opcode.Count) != 3 || opcode.Count <= opcode.FirstComputes || opcode.Count >= opcode.LastComputes {
		t.Error("what counts stands among those that compute")
	}
}
