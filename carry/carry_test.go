package carry_test

import (
	"reflect"
	"slices"
	"strings"
	"testing"

	"reglet/api"
	"reglet/carry"
	"reglet/flow"
	"reglet/ins"
)

// TestExample is the chapter's.
func TestExample(t *testing.T) {
	f := api.Func{Regs: []int{1, 1, 1}, Params: []int{0}, Ret: 1, Code: []api.Ins{{Op: 4, Dst: 1, A: 0}, {Op: 5, Num: 96, Dst: 2, A: 1, B: 1}, {Op: 30, A: 2}}}
	g := checkAll(t, f)
	if want := (api.Ins{Op: 5, Num: 96, Dst: 2}); !reflect.DeepEqual(g.Code[1], want) {
		t.Errorf("OpBin of a copy is %+v", g.Code[1])
	}
}

// A changes is a function told in words, and what becomes of it.
type changes struct{ what, code, want string }

// checkChanges holds Pass against what becomes of functions with those rows.
func checkChanges(t *testing.T, list []changes, rows ...string) {
	t.Helper()
	for _, c := range list {
		f, want := fn(c.code, rows...), fn(c.want, rows...)
		if e := ins.Check(f); e != api.OK {
			t.Errorf("%s: %s: %v", c.what, c.code, e)
			continue
		}
		if got := carry.Pass(f); !reflect.DeepEqual(got, want) {
			t.Errorf("%s: %s becomes\n     %+v\nwant %+v", c.what, c.code, got.Code, want.Code)
		}
		checkAll(t, f)
	}
}

func TestInABlock(t *testing.T) {
	checkChanges(t, []changes{
		{"no copy", "add 2 0 1, return 2", "add 2 0 1, return 2"},
		{"a copy for nobody", "move 1 0, return -1", "move 1 0, return -1"},
		{"a copy of an argument", "move 1 0, return 1", "move 1 0, return 0"},
		{"a copy of what was computed", "add 1 0 2, move 3 1, return 3", "add 1 0 2, move 3 1, return 1"},
		{"a long", "move 10 9, return 10", "move 10 9, return 9"},
		{"a reference", "move 6 5, return 6", "move 6 5, return 5"},
		{"a copy far ahead", "move 1 0, const 2, nop, putstatic 3, call -1, new 5, return 1", "move 1 0, const 2, nop, putstatic 3, call -1, new 5, return 0"},
		{"a copy of a copy", "move 1 0, move 2 1, return 2", "move 1 0, move 2 0, return 0"},
		{"a copy of a copy of a copy", "move 1 0, move 2 1, move 3 2, add 3 1 2, return 3", "move 1 0, move 2 0, move 3 0, add 3 0 0, return 3"},
		{"copies of copies, the last ones first", "move 3 2, move 2 1, move 1 0, add 4 3 2, return 1", "move 3 2, move 2 1, move 1 0, add 4 3 2, return 0"},
		{"two copies of one", "move 1 0, move 2 0, add 3 1 2, return 3", "move 1 0, move 2 0, add 3 0 0, return 3"},
		{"a copy made again", "move 1 0, move 1 0, return 1", "move 1 0, move 1 0, return 0"},
		{"a copy made again of its copy", "move 1 0, move 2 1, move 1 2, return 1", "move 1 0, move 2 0, move 1 0, return 0"},
		{"a copy of another one then", "move 1 0, move 1 2, return 1", "move 1 0, move 1 2, return 2"},
		{"of which there was a copy", "move 1 0, move 2 1, move 1 3, add 4 1 2, return 4", "move 1 0, move 2 0, move 1 3, add 4 3 0, return 4"},

		{"the copy written", "move 1 0, const 1, return 1", "move 1 0, const 1, return 1"},
		{"its source written", "move 1 0, const 0, return 1", "move 1 0, const 0, return 1"},
		{"another one written", "move 1 0, const 2, return 1", "move 1 0, const 2, return 0"},
		{"the copy written, and made again", "move 1 0, const 1, move 1 0, return 1", "move 1 0, const 1, move 1 0, return 0"},
		{"its source written, and copied again", "move 1 0, const 0, move 1 0, return 1", "move 1 0, const 0, move 1 0, return 0"},
		{"the first of three written", "move 1 0, move 2 1, const 0, add 3 1 2, return 3", "move 1 0, move 2 0, const 0, add 3 1 2, return 3"},
		{"the second of three written", "move 1 0, move 2 1, const 1, add 3 1 2, return 3", "move 1 0, move 2 0, const 1, add 3 1 0, return 3"},
		{"the third of three written", "move 1 0, move 2 1, const 2, add 3 1 2, return 3", "move 1 0, move 2 0, const 2, add 3 0 2, return 3"},
		{"the copy written by who reads it", "move 1 0, add 1 1 1, return 1", "move 1 0, add 1 0 0, return 1"},
		{"the source written by who reads both", "move 1 0, add 0 0 1, add 2 0 1, return 2", "move 1 0, add 0 0 0, add 2 0 1, return 2"},
		{"the source written by who reads the copy", "move 1 0, negative 0 1, return 1", "move 1 0, negative 0 0, return 1"},
		{"the copy written by who reads the source", "move 1 0, negative 1 0, add 2 0 1, return 2", "move 1 0, negative 1 0, add 2 0 1, return 2"},
		{"a call gives the copy back", "move 1 0, call 1 1 0, return 1", "move 1 0, call 1 0 0, return 1"},
		{"a call gives the source back", "move 1 0, call 0 1 0, add 2 0 1, return 2", "move 1 0, call 0 0 0, add 2 0 1, return 2"},
		{"a call gives nothing back", "move 1 0, call -1 1, return 1", "move 1 0, call -1 0, return 0"},
		{"a new thing where the source lay", "move 6 5, new 5, nullcheck 6, return 6", "move 6 5, new 5, nullcheck 6, return 6"},

		{"moved to itself", "move 0 0, return 0", "move 0 0, return 0"},
		{"a copy moved to itself", "move 1 0, move 1 1, return 1", "move 1 0, move 1 0, return 0"},
		{"moved to itself, and copied", "move 0 0, move 1 0, return 1", "move 0 0, move 1 0, return 0"},
		{"two in a circle", "move 1 0, move 0 1, add 2 0 1, return 2", "move 1 0, move 0 0, add 2 0 1, return 2"},
		{"two in a circle, and on", "move 1 0, move 0 1, move 1 0, return 1", "move 1 0, move 0 0, move 1 0, return 0"},
		{"two in a circle for ever", "move 1 0, move 0 1, putstatic 0, putstatic 1, goto 0", "move 1 0, move 0 0, putstatic 0, putstatic 1, goto 0"},
		{"three in a circle", "move 1 0, move 2 1, move 0 2, add 3 1 2, return 0", "move 1 0, move 2 0, move 0 0, add 3 1 2, return 0"},
		{"two that change their places", "move 2 0, move 0 1, move 1 2, add 3 0 1, return 2", "move 2 0, move 0 1, move 1 2, add 3 0 2, return 2"},
	})
}

// TestWhatReads: whichever instruction it is, each register that it reads is read at its source, each as often as it is read; nothing else of it changes.
func TestWhatReads(t *testing.T) {
	const copies = "move 1 0, move 2 0, move 6 5, move 7 5, move 10 9, "
	var list []changes
	for what, want := range map[string]string{
		"add 3 1 2": "add 3 0 0", "add 3 3 1": "add 3 3 0", "add 1 1 1": "add 1 0 0", "compare 3 10 9": "compare 3 9 9", "negative 3 2": "negative 3 0", "move 3 2": "move 3 0",
		"zerocheck 1": "zerocheck 0", "zerocheck 10": "zerocheck 9", "nullcheck 6": "nullcheck 5", "boundcheck 7 2": "boundcheck 5 0", "sizecheck 1": "sizecheck 0", "storecheck 6 7": "storecheck 5 5", "castcheck 7": "castcheck 5",
		"load 3 6 1": "load 3 5 0", "store 6 1 2": "store 5 0 0", "store 7 2 10": "store 5 0 9", "store 6 3 7": "store 5 3 5", "len 3 6": "len 3 5",
		"getfield 3 7": "getfield 3 5", "putfield 6 7": "putfield 5 5", "putfield 8 1": "putfield 8 0", "getstatic 3": "getstatic 3", "putstatic 10": "putstatic 9",
		"new 8": "new 8", "newarray 8 1": "newarray 8 0", "instance 3 6": "instance 3 5", "const 3": "const 3", "nothing 8": "nothing 8", "text 8": "text 8", "nop": "nop",
		"call -1": "call -1", "call 3 1 3 2 6 10 1": "call 3 0 3 0 5 9 0", "callvirtual 8 6": "callvirtual 8 5", "callvirtual -1 7 7 1": "callvirtual -1 5 5 0", "calliface 3 8 1": "calliface 3 8 0", "callnative -1 2": "callnative -1 0",
		"call 4 0 1 2 3 4 5 6 7 8 9 10 1 1 1 2 2 2 10 10 6 6": "call 4 0 0 0 3 4 5 5 5 8 9 9 0 0 0 0 0 0 9 9 5 5",
		"goto 6": "goto 6", "ifint 1 2 6": "ifint 0 0 6", "ifint 3 1 6": "ifint 3 0 6", "ifref 6 7 6": "ifref 5 5 6", "ifref 7 -1 6": "ifref 5 -1 6", "ifref 8 6 6": "ifref 8 5 6",
	} {
		list = append(list, changes{what, copies + what + ", return -1", copies + want + ", return -1"})
	}
	for what, want := range map[string]string{"return 1": "return 0", "return 3": "return 3", "return 7": "return 5", "return 10": "return 9", "throw 6": "throw 5", "throw 8": "throw 8"} {
		list = append(list, changes{what, copies + what, copies + want})
	}
	if seen := opsOf(list); len(seen) != 32 {
		t.Errorf("only the Ops %v", seen)
	}
	checkChanges(t, list)
}

// opsOf are the Ops of functions told in words.
func opsOf(list []changes) map[int]int {
	seen := map[int]int{}
	for _, c := range list {
		for _, x := range fn(c.code).Code {
			seen[x.Op]++
		}
	}
	return seen
}

// TestWhatIsntNeeded: numbers in fields that an Op doesn't need are no registers, and stay.
func TestWhatIsntNeeded(t *testing.T) {
	for _, x := range []api.Ins{
		{Op: 1, Dst: 3}, {Op: 2, Dst: 8}, {Op: 3, Dst: 8}, {Op: 18, Dst: 3}, {Op: 20, Dst: 8}, {Op: 23, Dst: 3}, {Op: 27}, {Op: 33, Dst: 1}, {Op: 30},
		{Op: 4, Dst: 3}, {Op: 7, Dst: 1}, {Op: 19, Dst: 1},
	} {
		f := fn("move 1 0, nop, return -1")
		x.A, x.B, x.C, x.To, x.Num, x.Ref = 1, 1, 1, 2, 77, "1"
		if !ins.Calls(x) {
			x.Args = []int{1, 1, 0}
		}
		want := x
		switch x.Op {
		case 4, 7, 19:
			want.A = 0
		case 30:
			x.A, want.A = -1, -1
		}
		f.Code[1] = x
		if e := ins.Check(f); e != api.OK {
			t.Fatalf("%d: %v", x.Op, e)
		}
		if g := checkAll(t, f); !reflect.DeepEqual(g.Code[1], want) {
			t.Errorf("%+v becomes %+v", x, g.Code[1])
		}
	}
}

func TestFromBlockToBlock(t *testing.T) {
	checkChanges(t, []changes{
		{"the next block", "move 1 0, ifint 2 3 2, return 1", "move 1 0, ifint 2 3 2, return 0"},
		{"behind a way", "move 1 0, goto 3, return 1, return 1", "move 1 0, goto 3, return 1, return 0"},
		{"behind a way back", "goto 2, return 1, move 1 0, goto 1", "goto 2, return 0, move 1 0, goto 1"},
		{"both ways from one place", "move 1 0, ifint 1 2 3, return 1, putstatic 1, return 1", "move 1 0, ifint 0 2 3, return 0, putstatic 0, return 0"},
		{"two blocks far", "move 1 0, goto 2, const 2, goto 4, const 3, return 1", "move 1 0, goto 2, const 2, goto 4, const 3, return 0"},
		{"a copy of a copy of another block", "move 1 0, goto 2, move 2 1, goto 4, add 3 1 2, return 3", "move 1 0, goto 2, move 2 0, goto 4, add 3 0 0, return 3"},
		{"a copy of one that is written in its block", "move 1 0, move 2 1, const 1, goto 4, return 2", "move 1 0, move 2 0, const 1, goto 4, return 0"},
		{"a copy of one that is written in the last block", "move 1 0, goto 2, move 2 1, goto 4, const 1, return 2", "move 1 0, goto 2, move 2 0, goto 4, const 1, return 0"},
		{"the source written in its block", "move 1 0, const 0, goto 3, return 1", "move 1 0, const 0, goto 3, return 1"},
		{"the source written in the next block", "move 1 0, goto 2, const 0, return 1", "move 1 0, goto 2, const 0, return 1"},
		{"the source read and written in the next block", "move 1 0, goto 2, add 0 1 1, return 1", "move 1 0, goto 2, add 0 0 0, return 1"},
		{"the copy written in its block", "move 1 0, const 1, goto 3, return 1", "move 1 0, const 1, goto 3, return 1"},
		{"the copy written in the next block", "move 1 0, goto 2, const 1, return 1", "move 1 0, goto 2, const 1, return 1"},
		{"the copy read and written in the next block", "move 1 0, goto 2, add 1 1 1, return 1", "move 1 0, goto 2, add 1 0 0, return 1"},
		{"a copy of another one in the next block", "move 1 0, goto 2, move 1 2, return 1", "move 1 0, goto 2, move 1 2, return 2"},
		{"a circle of two in two blocks", "move 1 0, goto 2, move 0 1, add 2 0 1, return 2", "move 1 0, goto 2, move 0 0, add 2 1 1, return 2"},
		{"moved to itself in the next block", "move 1 0, goto 2, move 1 1, return 1", "move 1 0, goto 2, move 1 0, return 0"},
	})
}

func TestWhereWaysMeet(t *testing.T) {
	checkChanges(t, []changes{
		{"a copy on both ways", "ifint 2 3 3, move 1 0, goto 4, move 1 0, return 1", "ifint 2 3 3, move 1 0, goto 4, move 1 0, return 0"},
		{"a copy of a copy on one way", "ifint 2 3 4, move 3 0, move 1 3, goto 5, move 1 0, return 1", "ifint 2 3 4, move 3 0, move 1 0, goto 5, move 1 0, return 0"},
		{"a copy on one way", "ifint 2 3 2, move 1 0, return 1", "ifint 2 3 2, move 1 0, return 1"},
		{"a copy on the other way", "ifint 2 3 3, nop, goto 4, move 1 0, return 1", "ifint 2 3 3, nop, goto 4, move 1 0, return 1"},
		{"a copy of another one on each way", "ifint 2 3 3, move 1 0, goto 4, move 1 4, return 1", "ifint 2 3 3, move 1 0, goto 4, move 1 4, return 1"},
		{"one a copy of the other one on each way", "ifint 2 3 3, move 1 0, goto 4, move 0 1, add 2 0 1, return 2", "ifint 2 3 3, move 1 0, goto 4, move 0 1, add 2 0 1, return 2"},
		{"the copy written on one way", "move 1 0, ifint 2 3 3, const 1, return 1", "move 1 0, ifint 2 3 3, const 1, return 1"},
		{"its source written on one way", "move 1 0, ifint 2 3 3, const 0, return 1", "move 1 0, ifint 2 3 3, const 0, return 1"},
		{"its source written on one way, and copied again", "move 1 0, ifint 2 3 4, const 0, move 1 0, return 1", "move 1 0, ifint 2 3 4, const 0, move 1 0, return 0"},
		{"another one written on one way", "move 1 0, ifint 2 3 3, const 2, return 1", "move 1 0, ifint 2 3 3, const 2, return 0"},
		{"three ways", "ifint 2 3 4, ifint 2 4 6, move 1 0, goto 7, move 1 0, goto 7, move 1 0, return 1", "ifint 2 3 4, ifint 2 4 6, move 1 0, goto 7, move 1 0, goto 7, move 1 0, return 0"},
		{"three ways, one without", "ifint 2 3 4, ifint 2 4 6, move 1 0, goto 7, move 1 0, goto 7, move 1 4, return 1", "ifint 2 3 4, ifint 2 4 6, move 1 0, goto 7, move 1 0, goto 7, move 1 4, return 1"},

		{"a circle", "move 1 0, putstatic 1, ifint 2 1 1, return 1", "move 1 0, putstatic 0, ifint 2 0 1, return 0"},
		{"a circle in which the source is written", "move 1 0, putstatic 1, add 0 0 2, ifint 2 3 1, return 1", "move 1 0, putstatic 1, add 0 0 2, ifint 2 3 1, return 1"},
		{"a circle in which the copy is written", "move 1 0, putstatic 1, add 1 0 2, ifint 2 3 1, return 1", "move 1 0, putstatic 1, add 1 0 2, ifint 2 3 1, return 1"},
		{"a circle in which it is made again", "move 1 0, putstatic 1, add 0 0 2, move 1 0, ifint 2 3 1, return 1", "move 1 0, putstatic 0, add 0 0 2, move 1 0, ifint 2 3 1, return 0"},
		{"a circle in which it is made alone", "putstatic 1, move 1 0, ifint 1 2 0, return 1", "putstatic 1, move 1 0, ifint 0 2 0, return 0"},
		{"a circle of one place", "move 1 0, ifint 1 2 1, return 1", "move 1 0, ifint 0 2 1, return 0"},
		{"a circle in a circle", "move 1 0, putstatic 1, putstatic 1, ifint 1 2 2, ifint 2 1 1, return 1", "move 1 0, putstatic 0, putstatic 0, ifint 0 2 2, ifint 2 0 1, return 0"},
		{"a circle in a circle in which the source is written", "move 1 0, putstatic 1, move 1 0, putstatic 1, ifint 1 2 3, const 0, ifint 2 1 1, return 1", "move 1 0, putstatic 1, move 1 0, putstatic 0, ifint 0 2 3, const 0, ifint 2 1 1, return 1"},
		{"the beginning, to which a way leads back", "add 0 1 1, move 1 0, goto 0", "add 0 1 1, move 1 0, goto 0"},

		{"what can't be reached", "return 0, move 1 0, return 1", "return 0, move 1 0, return 1"},
		{"a copy that can't be reached", "goto 2, move 1 0, return 1", "goto 2, move 1 0, return 1"},
		{"a write that can't be reached", "move 1 0, goto 3, const 0, return 1", "move 1 0, goto 3, const 0, return 0"},
		{"another copy that can't be reached", "move 1 0, goto 3, move 1 2, return 1", "move 1 0, goto 3, move 1 2, return 0"},
		{"a circle that can't be reached", "return 0, move 1 0, putstatic 1, goto 2", "return 0, move 1 0, putstatic 1, goto 2"},
	})
}

func TestWhereItIsCaught(t *testing.T) {
	for rows, list := range map[string][]changes{
		"1/2:3": {
			{"ahead of who throws", "move 1 0, call -1, return 1, catch 5, return 1", "move 1 0, call -1, return 0, catch 5, return 0"},
			{"who throws writes the source", "move 1 0, call 0, return 1, catch 5, return 1", "move 1 0, call 0, return 1, catch 5, return 0"},
			{"who throws writes the copy", "move 1 0, call 1, return 1, catch 5, return 1", "move 1 0, call 1, return 1, catch 5, return 0"},
			{"who throws reads and writes the source", "move 1 0, call 0 1 0, return 1, catch 5, return 1", "move 1 0, call 0 0 0, return 1, catch 5, return 0"},
			{"who throws reads and writes the copy", "move 1 0, call 1 1, return 1, catch 5, return 1", "move 1 0, call 1 0, return 1, catch 5, return 0"},
			{"a new thing where the source lay", "move 6 5, new 5, throw 6, catch 7, throw 6", "move 6 5, new 5, throw 6, catch 7, throw 5"},
			{"a new array where the copy lay", "move 6 5, newarray 6 0, throw 6, catch 7, throw 6", "move 6 5, newarray 6 0, throw 6, catch 7, throw 5"},
			{"a check", "move 6 5, nullcheck 6, throw 6, catch 7, throw 6", "move 6 5, nullcheck 5, throw 5, catch 7, throw 5"},
			{"the thing that is caught lies in the source", "move 6 5, nullcheck 6, throw 6, catch 5, throw 6", "move 6 5, nullcheck 5, throw 5, catch 5, throw 6"},
			{"the thing that is caught lies in the copy", "move 6 5, nullcheck 6, throw 6, catch 6, throw 6", "move 6 5, nullcheck 5, throw 5, catch 6, throw 6"},
			{"the thing that is caught is copied", "move 6 5, nullcheck 6, throw 6, catch 6, move 5 6, throw 5", "move 6 5, nullcheck 5, throw 5, catch 6, move 5 6, throw 6"},
			{"what is thrown is a copy", "move 6 5, throw 6, return -1, catch 7, throw 6", "move 6 5, throw 5, return -1, catch 7, throw 5"},
			{"nobody throws", "move 1 0, const 2, return 1, catch 5, return 1", "move 1 0, const 2, return 0, catch 5, return 1"},
			{"thrown outside of the row", "call -1, move 1 0, return 1, catch 5, return 1", "call -1, move 1 0, return 0, catch 5, return 1"},
		},
		"0/4:5": {
			{"two that throw", "move 1 0, call -1, call -1, return 1, throw 5, catch 6, return 1", "move 1 0, call -1, call -1, return 0, throw 5, catch 6, return 0"},
			{"made between two that throw", "call -1, move 1 0, call -1, return 1, throw 5, catch 6, return 1", "call -1, move 1 0, call -1, return 0, throw 5, catch 6, return 1"},
			{"the source written between two that throw", "move 1 0, call -1, const 0, call -1, return 1, catch 5, return 1", "move 1 0, call -1, const 0, call -1, return 1, catch 5, return 1"},
			{"the first that throws writes the source", "move 1 0, call 0, call -1, return 1, throw 5, catch 6, return 1", "move 1 0, call 0, call -1, return 1, throw 5, catch 6, return 1"},
			{"the second that throws writes the source", "move 1 0, call -1, call 0, return 1, throw 5, catch 6, return 1", "move 1 0, call -1, call 0, return 1, throw 5, catch 6, return 0"},
			{"the first that throws writes the copy", "move 1 0, call 1, call -1, return 1, throw 5, catch 6, return 1", "move 1 0, call 1, call -1, return 1, throw 5, catch 6, return 1"},
			{"made again between two that throw", "move 1 0, call 1, move 1 0, call -1, return 1, catch 6, return 1", "move 1 0, call 1, move 1 0, call -1, return 0, catch 6, return 0"},
			{"one that throws can't be reached", "move 1 0, goto 3, call -1, call -1, return 1, catch 6, return 1", "move 1 0, goto 3, call -1, call -1, return 0, catch 6, return 0"},
		},
		"2/3:4 a, 1/3:6": {
			{"rows in one another", "move 1 0, call -1, call 0, return 1, catch 5, return 1, catch 5, return 1", "move 1 0, call -1, call 0, return 1, catch 5, return 0, catch 5, return 0"},
			{"rows in one another, the outer one writes the source", "move 1 0, call 0, call -1, return 1, catch 5, return 1, catch 5, return 1", "move 1 0, call 0, call -1, return 1, catch 5, return 1, catch 5, return 1"},
		},
		"2/3:4, 1/3:6": {
			{"a row of all ahead of the outer one", "move 1 0, call -1, call 0, return 1, catch 5, return 1, catch 5, return 1", "move 1 0, call -1, call 0, return 1, catch 5, return 0, catch 5, return 0"},
			{"which the second one doesn't come to", "move 1 0, call 0, call -1, return 1, catch 5, return 1, catch 5, return 1", "move 1 0, call 0, call -1, return 1, catch 5, return 1, catch 5, return 0"},
		},
		"1/5:2": {
			{"a row about its own At", "move 1 0, throw 5, catch 6, putstatic 1, throw 6", "move 1 0, throw 5, catch 6, putstatic 0, throw 6"},
			{"where the source is written", "move 1 0, throw 5, catch 6, add 0 0 1, throw 6", "move 1 0, throw 5, catch 6, add 0 0 1, throw 6"},
			{"where the copy is written", "move 1 0, throw 5, catch 6, add 1 0 1, throw 6", "move 1 0, throw 5, catch 6, add 1 0 1, throw 6"},
			{"where the thing is copied", "move 7 6, throw 7, catch 6, move 7 6, throw 7", "move 7 6, throw 6, catch 6, move 7 6, throw 6"},
		},
	} {
		checkChanges(t, list, strings.Split(rows, ", ")...)
	}
}

// TestNotSet: what nobody wrote yet is 0, and copied as anything else.
func TestNotSet(t *testing.T) {
	for _, c := range []struct {
		what  string
		f     api.Func
		want  string
		isSet bool
	}{
		{"a parameter", given(fn("move 1 0, return 1"), 0), "move 1 0, return 0", true},
		{"of which the copy is another one", given(fn("move 1 0, return 1"), 1, 0), "move 1 0, return 0", true},
		{"no parameter", given(fn("move 1 0, return 1")), "move 1 0, return 0", false},
		{"no parameter, but the copy is one", given(fn("move 1 0, return 1"), 1), "move 1 0, return 0", false},
		{"set behind it", given(fn("move 1 0, const 0, return 1")), "move 1 0, const 0, return 1", false},
		{"set on one way", given(fn("ifint 1 1 2, const 0, move 1 0, return 1"), 1), "ifint 1 1 2, const 0, move 1 0, return 0", false},
		{"set on both ways", given(fn("ifint 1 1 3, const 0, goto 4, const 0, move 1 0, return 1"), 1), "ifint 1 1 3, const 0, goto 4, const 0, move 1 0, return 0", true},
		{"given back by who throws", given(fn("call 0, move 1 0, return 1, catch 5, return 1", "0/1:3"), 1), "call 0, move 1 0, return 0, catch 5, return 1", true},
		{"nobody comes to who reads it", given(fn("return -1, move 1 0, putstatic 1, goto 0")), "return -1, move 1 0, putstatic 1, goto 0", true},
	} {
		if flow.Set(c.f) != c.isSet {
			t.Errorf("%s: sets what it reads: %v", c.what, !c.isSet)
		}
		if g := checkAll(t, c.f); !reflect.DeepEqual(g.Code, fn(c.want).Code) || flow.Set(g) != c.isSet {
			t.Errorf("%s: %s becomes %s", c.what, told(c.f), told(g))
		}
	}
}

// TestOthers: what isn't well formed stays as it is.
func TestOthers(t *testing.T) {
	with := func(change func(f *api.Func)) api.Func {
		f := fn("move 1 0, ifint 0 1 0, call 2 1 1, return 1, catch 5, return 1", "0/3:4")
		change(&f)
		return f
	}
	for what, f := range map[string]api.Func{
		"nothing":           {},
		"nothing but lists": {Regs: []int{}, Params: []int{}, Code: []api.Ins{}, Rows: []api.Row{}},
		"nothing but a row": {Rows: []api.Row{{From: 0, To: 1, At: 0}}},
		"doesn't end":       fn("move 1 0, putstatic 1"),
		"to no place":       with(func(f *api.Func) { f.Code[1].To = 6 }),
		"to below 0":        with(func(f *api.Func) { f.Code[1].To = -1 }),
		"no such register":  with(func(f *api.Func) { f.Code[0].A = 11 }),
		"a register below":  with(func(f *api.Func) { f.Code[0].Dst = -1 }),
		"no such argument":  with(func(f *api.Func) { f.Code[2].Args = []int{1, 77} }),
		"22 arguments":      with(func(f *api.Func) { f.Code[2].Args = slices.Repeat([]int{1}, 22) }),
		"another kind":      with(func(f *api.Func) { f.Regs[0] = 3 }),
		"no kind":           with(func(f *api.Func) { f.Regs[7] = 4 }),
		"no Op":             with(func(f *api.Func) { f.Code[2].Op = 34 }),
		"no such parameter": with(func(f *api.Func) { f.Params[0] = 11 }),
		"a parameter twice": with(func(f *api.Func) { f.Params[0] = 1 }),
		"gives back a long": with(func(f *api.Func) { f.Ret = 2 }),
		"nobody catches":    with(func(f *api.Func) { f.Rows[0].At = 5 }),
		"about nothing":     with(func(f *api.Func) { f.Rows[0].To = 0 }),
		"about too much":    with(func(f *api.Func) { f.Rows[0].To = 7 }),
		"to a catch":        with(func(f *api.Func) { f.Code[1].To = 4 }),
	} {
		if e := ins.Check(f); e == api.OK {
			t.Errorf("%s: %s is well formed", what, told(f))
		}
		checkAll(t, f)
	}
	f := with(func(*api.Func) {})
	if g := checkAll(t, f); g.Code[1].B != 0 {
		t.Errorf("%s becomes %s", told(f), told(g))
	}
}
