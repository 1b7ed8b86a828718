package fold_test

import (
	"reflect"
	"slices"
	"strings"
	"testing"

	"reglet/api"
	"reglet/flow"
	"reglet/fold"
	"reglet/ins"
)

// TestExample is the chapter's.
func TestExample(t *testing.T) {
	f := api.Func{Regs: []int{1, 1, 1}, Ret: 1, Code: []api.Ins{{Op: 1, Dst: 0, Num: 2}, {Op: 1, Dst: 1, Num: 3}, {Op: 5, Num: 104, Dst: 2, A: 0, B: 1}, {Op: 30, A: 2}}}
	g := checkAll(t, f)
	if want := (api.Ins{Op: 1, Dst: 2, Num: 6}); !reflect.DeepEqual(g.Code[2], want) {
		t.Errorf("OpBin of 2 and 3 is %+v", g.Code[2])
	}
}

// A changes is a function told in words, and what becomes of it.
type changes struct{ what, code, want string }

// checkChanges holds Pass against what becomes of functions with those rows.
func checkChanges(t *testing.T, list []changes, rows ...string) {
	t.Helper()
	for _, c := range list {
		f, want := fn(c.code, rows...), fn(c.want, rows...)
		if e := ins.Check(f); e != api.OK {
			t.Errorf("%s: %s: %v", c.what, c.code, e)
			continue
		}
		if got := fold.Pass(f); !reflect.DeepEqual(got, want) {
			t.Errorf("%s: %s becomes\n     %+v\nwant %+v", c.what, c.code, got.Code, want.Code)
		}
		checkAll(t, f)
	}
}

func TestInABlock(t *testing.T) {
	checkChanges(t, []changes{
		{"nothing known", "add 2 0 1, return 2", "add 2 0 1, return 2"},
		{"nothing computed", "const 0 2, return 0", "const 0 2, return 0"},
		{"the first one known", "const 0 2, add 2 0 1, return 2", "const 0 2, add 2 0 1, return 2"},
		{"the second one known", "const 1 2, add 2 0 1, return 2", "const 1 2, add 2 0 1, return 2"},
		{"both known", "const 0 2, const 1 3, add 2 0 1, return 2", "const 0 2, const 1 3, const 2 5, return 2"},
		{"one known, read twice", "const 0 2, add 2 0 0, return 2", "const 0 2, const 2 4, return 2"},
		{"one, by OpUn", "const 0 2, negative 1 0, return 1", "const 0 2, const 1 -2, return 1"},
		{"another one, by OpUn", "const 0 2, negative 1 2, return 1", "const 0 2, negative 1 2, return 1"},
		{"known behind it", "add 2 0 1, const 0 2, const 1 3, return 2", "add 2 0 1, const 0 2, const 1 3, return 2"},
		{"known far ahead", "const 0 2, const 1 3, nop, putstatic 2, new 5, load 3 5 2, call -1, const 4 9, add 2 0 1, return 2", "const 0 2, const 1 3, nop, putstatic 2, new 5, load 3 5 2, call -1, const 4 9, const 2 5, return 2"},
		{"0 and below", "const 0 0, const 1 -1, mul 2 0 1, add 3 0 1, return 3", "const 0 0, const 1 -1, const 2 0, const 3 -1, return 3"},
		{"longs", "const 8 5000000000, bin 97 9 8 8, return 9", "const 8 5000000000, const 9 10000000000, return 9"},
		{"an int of a long, and a long of an int", "const 8 5000000000, un 136 0 8, un 133 9 0, return 9", "const 8 5000000000, const 0 705032704, const 9 705032704, return 9"},
		{"an int wraps, a long doesn't", "const 0 2147483647, add 1 0 0, un 133 8 0, bin 97 9 8 8, return 9", "const 0 2147483647, const 1 -2, const 8 2147483647, const 9 4294967294, return 9"},

		{"computed of what was computed", "const 0 2, add 1 0 0, mul 2 1 1, negative 3 2, return 3", "const 0 2, const 1 4, const 2 16, const 3 -16, return 3"},
		{"one register all the time", "const 0 2, add 0 0 0, mul 0 0 0, negative 0 0, return 0", "const 0 2, const 0 4, const 0 16, const 0 -16, return 0"},
		{"a row that breaks off", "const 0 2, add 1 0 0, add 2 1 4, add 3 1 2, add 4 1 0, return 4", "const 0 2, const 1 4, add 2 1 4, add 3 1 2, const 4 6, return 4"},
		{"a row that goes on", "const 0 2, add 1 0 4, const 1 3, add 2 0 1, return 2", "const 0 2, add 1 0 4, const 1 3, const 2 5, return 2"},
	})
}

func TestWrittenAgain(t *testing.T) {
	checkChanges(t, []changes{
		{"by another constant", "const 0 2, const 0 3, add 1 0 0, return 1", "const 0 2, const 0 3, const 1 6, return 1"},
		{"by another constant, behind it", "const 0 2, add 1 0 0, const 0 3, return 1", "const 0 2, const 1 4, const 0 3, return 1"},
		{"by the same constant", "const 0 2, const 0 2, add 1 0 0, return 1", "const 0 2, const 0 2, const 1 4, return 1"},
		{"by who reads it", "const 0 2, add 0 0 0, add 0 0 0, return 0", "const 0 2, const 0 4, const 0 8, return 0"},
		{"by who reads it with what isn't known", "const 0 2, add 0 0 1, add 1 0 0, return 1", "const 0 2, add 0 0 1, add 1 0 0, return 1"},
		{"by who reads it behind what isn't known", "const 0 2, add 0 1 0, negative 1 0, return 1", "const 0 2, add 0 1 0, negative 1 0, return 1"},
		{"by who reads it alone", "const 0 2, negative 0 0, negative 0 0, return 0", "const 0 2, const 0 -2, const 0 2, return 0"},
		{"by what is computed of others", "const 0 2, const 1 3, add 0 1 1, add 1 0 1, return 1", "const 0 2, const 1 3, const 0 6, const 1 9, return 1"},
		{"by what is computed of what isn't known", "const 0 2, add 0 1 1, negative 2 0, return 2", "const 0 2, add 0 1 1, negative 2 0, return 2"},
		{"and known again", "const 0 2, add 0 1 1, const 0 3, negative 2 0, return 2", "const 0 2, add 0 1 1, const 0 3, const 2 -3, return 2"},
		{"another one is", "const 0 2, const 1 3, negative 1 2, negative 2 0, return 2", "const 0 2, const 1 3, negative 1 2, const 2 -2, return 2"},
		{"by what is moved", "const 0 2, move 0 1, negative 2 0, return 2", "const 0 2, move 0 1, negative 2 0, return 2"},
		{"by what is loaded", "const 0 2, load 0 5 0, negative 2 0, return 2", "const 0 2, load 0 5 0, negative 2 0, return 2"},
		{"by a length", "const 0 2, len 0 5, negative 2 0, return 2", "const 0 2, len 0 5, negative 2 0, return 2"},
		{"by a word", "const 0 2, getfield 0 5, negative 2 0, return 2", "const 0 2, getfield 0 5, negative 2 0, return 2"},
		{"by a static", "const 8 2, getstatic 8, un 117 9 8, return 9", "const 8 2, getstatic 8, un 117 9 8, return 9"},
		{"by a question", "const 0 2, instance 0 5, negative 2 0, return 2", "const 0 2, instance 0 5, negative 2 0, return 2"},
		{"by a call", "const 0 2, call 0 0, negative 2 0, return 2", "const 0 2, call 0 0, negative 2 0, return 2"},
		{"by a call of an object", "const 0 2, callvirtual 0 5, negative 2 0, return 2", "const 0 2, callvirtual 0 5, negative 2 0, return 2"},
		{"by a call of an interface", "const 0 2, calliface 0 5, negative 2 0, return 2", "const 0 2, calliface 0 5, negative 2 0, return 2"},
		{"by one of the machine's own", "const 0 2, callnative 0 0, negative 2 0, return 2", "const 0 2, callnative 0 0, negative 2 0, return 2"},
		{"a call gives another one back", "const 0 2, call 1 0, negative 2 0, return 2", "const 0 2, call 1 0, const 2 -2, return 2"},
		{"a call gives nothing back", "const 0 2, call -1 0, negative 2 0, return 2", "const 0 2, call -1 0, const 2 -2, return 2"},
		{"references are", "const 0 2, nothing 5, text 6, new 7, newarray 5 0, negative 2 0, return 2", "const 0 2, nothing 5, text 6, new 7, newarray 5 0, const 2 -2, return 2"},
		{"a place, a word and a static are", "const 0 2, store 5 0 0, putfield 5 0, putstatic 0, negative 2 0, return 2", "const 0 2, store 5 0 0, putfield 5 0, putstatic 0, const 2 -2, return 2"},
	})
}

func TestMoves(t *testing.T) {
	checkChanges(t, []changes{
		{"of what is known", "const 0 2, move 1 0, return 1", "const 0 2, const 1 2, return 1"},
		{"of what isn't", "const 0 2, move 1 2, return 1", "const 0 2, move 1 2, return 1"},
		{"of what is known, to what is", "const 0 2, const 1 3, move 1 0, add 2 0 1, return 2", "const 0 2, const 1 3, const 1 2, const 2 4, return 2"},
		{"of what isn't, to what is", "const 1 3, move 1 0, add 2 1 1, return 2", "const 1 3, move 1 0, add 2 1 1, return 2"},
		{"of what isn't known any more", "const 0 3, call 0, move 1 0, add 2 1 1, return 2", "const 0 3, call 0, move 1 0, add 2 1 1, return 2"},
		{"of what was moved", "const 0 2, move 1 0, move 2 1, add 3 1 2, return 3", "const 0 2, const 1 2, const 2 2, const 3 4, return 3"},
		{"of what was computed", "const 0 2, add 1 0 0, move 2 1, return 2", "const 0 2, const 1 4, const 2 4, return 2"},
		{"of what is written then", "const 0 2, move 1 0, call 0, add 2 1 1, return 2", "const 0 2, const 1 2, call 0, const 2 4, return 2"},
		{"of a long", "const 8 -5000000000, move 9 8, return 9", "const 8 -5000000000, const 9 -5000000000, return 9"},
		{"of a reference", "const 0 2, move 5 6, return 0", "const 0 2, move 5 6, return 0"},
		{"to itself", "const 0 2, move 0 0, negative 1 0, return 1", "const 0 2, const 0 2, const 1 -2, return 1"},
		{"to itself of what isn't known", "const 0 2, move 1 1, negative 2 1, return 2", "const 0 2, move 1 1, negative 2 1, return 2"},
		{"that change places", "const 0 2, const 1 3, move 2 0, move 0 1, move 1 2, bin 100 3 0 1, return 3", "const 0 2, const 1 3, const 2 2, const 0 3, const 1 2, const 3 1, return 3"},
	})
}

// TestChecks, and all else that asks for numbers, stay, however known these are; what throws between a number and who reads it makes it no less known.
func TestChecks(t *testing.T) {
	for _, what := range []string{
		"zerocheck 0", "zerocheck 1", "zerocheck 8", "sizecheck 0", "sizecheck 1", "sizecheck 2", "boundcheck 5 0", "boundcheck 5 2", "nullcheck 5", "storecheck 5 6", "castcheck 6",
		"new 5", "newarray 6 0", "newarray 6 2", "load 3 5 0", "store 5 0 1", "store 5 1 8", "len 3 6", "getfield 3 5", "putfield 5 0", "putfield 5 8", "getstatic 3", "putstatic 0", "putstatic 8", "instance 3 7",
		"call -1 0 1 2 8", "call 3 0 1", "callvirtual 5 5 0", "callvirtual -1 6 0 1 8", "calliface 9 5 0 2", "callnative -1 0", "nop", "text 6", "nothing 7",
		"call 4 0 1 2 0 1 2 0 1 2 0 1 2 8 8 8 8 8 8 5 5 5",
		"goto 5", "ifref 5 6 5", "ifref 5 -1 0", "ifint 0 0 3 0", "ifint 1 4 4 0", "ifint 4 3 1 5",
	} {
		const ahead = "const 0 2, const 1 0, const 2 -2, const 8 0, "
		checkChanges(t, []changes{
			{what, ahead + what + ", return -1", ahead + what + ", return -1"},
		})
		if strings.Contains(" goto ifref ifint ", " "+strings.Fields(what)[0]+" ") {
			continue
		}
		checkChanges(t, []changes{
			{"behind " + what, ahead + what + ", add 1 0 2, un 117 8 8, ifint 5 0 2 0, putstatic 1, return -1", ahead + what + ", const 1 0, const 8 0, nop, putstatic 1, return -1"},
		})
	}
	checkChanges(t, []changes{
		{"a quotient by 0, checked", "const 0 2, const 1 0, zerocheck 1, div 2 0 1, return 2", "const 0 2, const 1 0, zerocheck 1, const 2 0, return 2"},
		{"given back", "const 0 2, return 0", "const 0 2, return 0"},
		{"thrown", "const 0 2, throw 5", "const 0 2, throw 5"},
	})
}

// TestWhatIsntNeeded: numbers in fields that an Op doesn't need are no registers, and stay where the instruction does; what is folded has none.
func TestWhatIsntNeeded(t *testing.T) {
	const known, other = 0, 4
	filled := func(x api.Ins) api.Ins {
		for _, spot := range []*int{&x.Dst, &x.A, &x.B, &x.C} {
			if *spot == -2 {
				*spot = known
			}
		}
		x.Ref, x.Args = "1", []int{0, 4}
		return x
	}
	for what, c := range map[string]struct{ x, want api.Ins }{
		"a number that isn't written": {api.Ins{Op: 14, Dst: -2, A: 5, B: 4, C: 4, Num: 7, To: 1}, api.Ins{Op: 14, Dst: -2, A: 5, B: 4, C: 4, Num: 7, To: 1}},
		"OpNop":                       {api.Ins{Op: 33, Dst: -2, A: -2, B: -2, C: -2, Num: 7, To: 1}, api.Ins{Op: 33, Dst: -2, A: -2, B: -2, C: -2, Num: 7, To: 1}},
		"OpConst":                     {api.Ins{Op: 1, Dst: 3, A: -2, B: -2, C: -2, Num: 7, To: 1}, api.Ins{Op: 1, Dst: 3, A: -2, B: -2, C: -2, Num: 7, To: 1}},
		"OpUn, known":                 {api.Ins{Op: 6, Dst: 3, A: -2, B: other, C: other, Num: 116, To: 1}, api.Ins{Op: 1, Dst: 3, Num: -9}},
		"OpUn, not known":             {api.Ins{Op: 6, Dst: 3, A: other, B: -2, C: -2, Num: 116, To: 1}, api.Ins{Op: 6, Dst: 3, A: other, B: -2, C: -2, Num: 116, To: 1}},
		"OpMove, known":               {api.Ins{Op: 4, Dst: 3, A: -2, B: other, C: other, Num: 96, To: 1}, api.Ins{Op: 1, Dst: 3, Num: 9}},
		"OpMove, not known":           {api.Ins{Op: 4, Dst: 3, A: other, B: -2, C: -2, Num: 96, To: 1}, api.Ins{Op: 4, Dst: 3, A: other, B: -2, C: -2, Num: 96, To: 1}},
		"OpBin":                       {api.Ins{Op: 5, Dst: 3, A: -2, B: -2, C: other, Num: 96, To: 1}, api.Ins{Op: 1, Dst: 3, Num: 18}},
		"OpIfInt that holds":          {api.Ins{Op: 28, Dst: 3, A: -2, B: -2, C: other, To: 3}, api.Ins{Op: 27, To: 3}},
		"OpIfInt that doesn't":        {api.Ins{Op: 28, Dst: 3, A: -2, B: -2, C: other, Num: 1, To: 3}, api.Ins{Op: 33}},
		"OpIfInt, not known":          {api.Ins{Op: 28, Dst: 3, A: other, B: -2, C: -2, To: 3}, api.Ins{Op: 28, Dst: 3, A: other, B: -2, C: -2, To: 3}},
	} {
		f := fn("const 0 9, nop, negative 1 0, return 1")
		f.Code[1] = filled(c.x)
		want := c.want
		if want.Op == c.x.Op {
			want = filled(want)
		}
		if e := ins.Check(f); e != api.OK {
			t.Fatalf("%s: %v", what, e)
		}
		g := checkAll(t, f)
		if !reflect.DeepEqual(g.Code[1], want) {
			t.Errorf("%s becomes %+v", what, g.Code[1])
		}
		if c.x.Op != 28 && g.Code[2].Op != 1 {
			t.Errorf("behind %s the number isn't known", what)
		}
	}
}

// TestFromBlockToBlock: what is known ends with its block, even if there is one way only.
func TestFromBlockToBlock(t *testing.T) {
	const behind = "negative 1 0, return 1"
	checkChanges(t, []changes{
		{"the next block", "const 0 2, ifint 2 3 4 2, " + behind, "const 0 2, ifint 2 3 4 2, " + behind},
		{"the next block, behind a way not taken", "const 0 2, ifint 1 0 0 0, " + behind, "const 0 2, nop, " + behind},
		{"the next block, behind OpIfRef", "const 0 2, ifref 5 6 0, " + behind, "const 0 2, ifref 5 6 0, " + behind},
		{"behind a way", "const 0 2, goto 3, return 1, " + behind, "const 0 2, goto 3, return 1, " + behind},
		{"behind a way that is taken", "const 0 2, ifint 0 0 0 3, return 1, " + behind, "const 0 2, goto 3, return 1, " + behind},
		{"behind a way back", "goto 3, " + behind + ", const 0 2, goto 1", "goto 3, " + behind + ", const 0 2, goto 1"},
		{"one block of them", "const 0 2, goto 2, const 0 3, " + behind, "const 0 2, goto 2, const 0 3, const 1 -3, return 1"},
		{"one register of them", "const 0 2, goto 2, const 1 3, add 2 0 1, return 2", "const 0 2, goto 2, const 1 3, add 2 0 1, return 2"},
		{"where several ways lead", "ifint 2 3 4 3, const 0 2, goto 4, const 0 2, " + behind, "ifint 2 3 4 3, const 0 2, goto 4, const 0 2, " + behind},
		{"of which one brings another number", "const 0 2, ifint 2 3 4 3, const 0 3, " + behind, "const 0 2, ifint 2 3 4 3, const 0 3, " + behind},
		{"a way into the midst", "const 0 2, putstatic 0, negative 1 0, ifint 2 3 4 1, return 1", "const 0 2, putstatic 0, negative 1 0, ifint 2 3 4 1, return 1"},
		{"a way into the midst, of what can't be reached", "const 0 2, negative 1 0, return 1, goto 1", "const 0 2, negative 1 0, return 1, goto 1"},
		{"a way into the midst that isn't taken", "const 0 2, negative 1 0, const 3 1, ifint 4 3 3 1, return 1", "const 0 2, negative 1 0, const 3 1, nop, return 1"},
		{"a way to the number itself", "const 0 2, negative 1 0, ifint 2 3 4 0, return 1", "const 0 2, const 1 -2, ifint 2 3 4 0, return 1"},
		{"a circle", "const 0 2, putstatic 0, add 0 0 0, ifint 2 0 3 1, return 0", "const 0 2, putstatic 0, add 0 0 0, ifint 2 0 3 1, return 0"},
		{"a circle with a number of its own", "const 0 2, const 3 1, add 0 0 3, const 3 9, ifint 2 0 3 2, return 0", "const 0 2, const 3 1, add 0 0 3, const 3 9, ifint 2 0 3 2, return 0"},
		{"a circle of one block", "const 0 2, add 1 0 0, putstatic 1, goto 0", "const 0 2, const 1 4, putstatic 1, goto 0"},
		{"a circle of one place", "const 0 2, ifint 0 0 0 1, return 0", "const 0 2, ifint 0 0 0 1, return 0"},
		{"a circle that counts", "const 0 0, const 1 1, add 0 0 1, const 2 9, ifint 2 0 2 1, return 0", "const 0 0, const 1 1, add 0 0 1, const 2 9, ifint 2 0 2 1, return 0"},
		{"behind what ends", "const 0 2, return 0, " + behind, "const 0 2, return 0, " + behind},

		{"what can't be reached", "return 0, const 0 2, " + behind, "return 0, const 0 2, const 1 -2, return 1"},
		{"a way that can't be reached", "return 0, const 0 2, ifint 0 0 0 0, ifint 1 0 0 0, return 0", "return 0, const 0 2, goto 0, ifint 1 0 0 0, return 0"},
		{"and isn't taken", "return 0, const 0 2, ifint 1 0 0 0, return 0", "return 0, const 0 2, nop, return 0"},
		{"a circle that can't be reached", "return 0, const 0 2, move 1 0, goto 1", "return 0, const 0 2, const 1 2, goto 1"},
		{"a number that can't be reached", "goto 2, const 0 2, " + behind, "goto 2, const 0 2, " + behind},
	})
}

// TestRows: a block begins where a row does, and ends, and where a thing is caught.
func TestRows(t *testing.T) {
	for rows, list := range map[string][]changes{
		"1/2:3": {
			{"known ahead of who throws", "const 0 2, call -1, return 0, catch 5, negative 1 0, return 1", "const 0 2, call -1, return 0, catch 5, negative 1 0, return 1"},
			{"known where it is caught", "const 0 2, call -1, return 0, catch 5, const 0 3, negative 1 0, return 1", "const 0 2, call -1, return 0, catch 5, const 0 3, const 1 -3, return 1"},
			{"read at the row's beginning", "const 0 2, negative 1 0, return 1, catch 5, return 1", "const 0 2, negative 1 0, return 1, catch 5, return 1"},
			{"a check of what is known", "const 0 0, zerocheck 0, return 0, catch 5, return 0", "const 0 0, zerocheck 0, return 0, catch 5, return 0"},
		},
		"1/3:4": {
			{"known and read in the row", "const 0 2, const 0 3, negative 1 0, return 1, catch 5, return 1", "const 0 2, const 0 3, const 1 -3, return 1, catch 5, return 1"},
			{"who throws writes it", "const 0 2, const 0 3, call 0, return 1, catch 5, negative 1 0, return 1", "const 0 2, const 0 3, call 0, return 1, catch 5, negative 1 0, return 1"},
			{"both known in the row", "const 0 2, const 0 3, const 1 4, throw 5, catch 5, add 2 0 1, return 2", "const 0 2, const 0 3, const 1 4, throw 5, catch 5, add 2 0 1, return 2"},
		},
		"0/2:5": {
			{"read at the row's end", "const 0 2, putstatic 0, negative 1 0, nop, return 1, catch 5, return 1", "const 0 2, putstatic 0, negative 1 0, nop, return 1, catch 5, return 1"},
			{"known from the row's end on", "const 0 2, putstatic 0, const 0 3, negative 1 0, return 1, catch 5, return 1", "const 0 2, putstatic 0, const 0 3, const 1 -3, return 1, catch 5, return 1"},
		},
		"1/4:5": {
			{"who throws stands between", "goto 1, const 0 2, call 1 0, negative 2 0, throw 5, catch 5, return 2", "goto 1, const 0 2, call 1 0, const 2 -2, throw 5, catch 5, return 2"},
			{"who throws stands between, and writes it", "goto 1, const 0 2, call 0 0, negative 2 0, throw 5, catch 5, return 2", "goto 1, const 0 2, call 0 0, negative 2 0, throw 5, catch 5, return 2"},
			{"a check that throws stands between", "goto 1, const 0 0, zerocheck 0, negative 2 0, throw 5, catch 5, return 2", "goto 1, const 0 0, zerocheck 0, const 2 0, throw 5, catch 5, return 2"},
			{"a way out of the row", "goto 1, const 0 2, ifint 0 0 0 4, return 0, throw 5, catch 5, return 2", "goto 1, const 0 2, goto 4, return 0, throw 5, catch 5, return 2"},
		},
		"0/6:2 a, 0/2:5": {
			{"two rows, one about both places where a thing is caught", "const 0 2, throw 5, catch 6, negative 1 0, throw 6, catch 7, negative 1 0, return 1", "const 0 2, throw 5, catch 6, negative 1 0, throw 6, catch 7, negative 1 0, return 1"},
			{"numbers of their own there", "const 0 2, throw 5, catch 6, const 0 3, throw 6, catch 7, negative 1 0, return 1", "const 0 2, throw 5, catch 6, const 0 3, throw 6, catch 7, negative 1 0, return 1"},
		},
	} {
		checkChanges(t, list, strings.Split(rows, ", ")...)
	}
}

// TestNotSet: what nobody wrote yet is 0, but isn't known.
func TestNotSet(t *testing.T) {
	for _, c := range []struct {
		what         string
		f            api.Func
		want         string
		isSet, isNow bool
	}{
		{"a parameter", given(fn("negative 1 0, return 1"), 0), "negative 1 0, return 1", true, true},
		{"no parameter", given(fn("negative 1 0, return 1")), "negative 1 0, return 1", false, false},
		{"read ahead of the number", given(fn("negative 1 0, const 0 2, return 1")), "negative 1 0, const 0 2, return 1", false, false},
		{"a number", given(fn("const 0 2, negative 1 0, return 1")), "const 0 2, const 1 -2, return 1", true, true},
		{"on a way that isn't taken", given(fn("const 0 2, ifint 1 0 0 3, return 0, return 1")), "const 0 2, nop, return 0, return 1", false, true},
		{"on a way that is taken", given(fn("const 0 2, ifint 0 0 0 3, return 0, return 1")), "const 0 2, goto 3, return 0, return 1", false, false},
		{"not read any more", given(fn("const 0 2, ifint 0 0 0 3, return 1, return 0")), "const 0 2, goto 3, return 1, return 0", false, true},
		{"nobody comes to who reads it", given(fn("return -1, const 0 2, add 1 0 0, putstatic 3, goto 0")), "return -1, const 0 2, const 1 4, putstatic 3, goto 0", true, true},
	} {
		if flow.Set(c.f) != c.isSet {
			t.Errorf("%s: sets what it reads: %v", c.what, !c.isSet)
		}
		if g := checkAll(t, c.f); !reflect.DeepEqual(g.Code, fn(c.want).Code) || flow.Set(g) != c.isNow {
			t.Errorf("%s: %s becomes %s", c.what, told(c.f), told(g))
		}
	}
}

// TestOthers: what isn't well formed stays as it is.
func TestOthers(t *testing.T) {
	with := func(change func(f *api.Func)) api.Func {
		f := fn("const 0 2, add 1 0 0, ifint 0 0 0 0, call 2 1 1, return 1, catch 5, return 1", "0/4:5")
		change(&f)
		return f
	}
	for what, f := range map[string]api.Func{
		"nothing":               {},
		"nothing but lists":     {Regs: []int{}, Params: []int{}, Code: []api.Ins{}, Rows: []api.Row{}},
		"nothing but a row":     {Rows: []api.Row{{From: 0, To: 1, At: 0}}},
		"doesn't end":           fn("const 0 2, add 1 0 0, putstatic 1"),
		"to no place":           with(func(f *api.Func) { f.Code[2].To = 7 }),
		"to below 0":            with(func(f *api.Func) { f.Code[2].To = -1 }),
		"no such register":      with(func(f *api.Func) { f.Code[1].Dst = 12 }),
		"a register below":      with(func(f *api.Func) { f.Code[0].Dst = -1 }),
		"no such condition":     with(func(f *api.Func) { f.Code[2].Num = 6 }),
		"no such code":          with(func(f *api.Func) { f.Code[1].Num = 95 }),
		"a code of one":         with(func(f *api.Func) { f.Code[1].Num = 116 }),
		"a code of longs":       with(func(f *api.Func) { f.Code[1].Num = 97 }),
		"a code too great":      with(func(f *api.Func) { f.Code[1].Num = 96 + 1<<32 }),
		"an int too great":      with(func(f *api.Func) { f.Code[0].Num = 1 << 31 }),
		"an int too small":      with(func(f *api.Func) { f.Code[0].Num = -1<<31 - 1 }),
		"no such argument":      with(func(f *api.Func) { f.Code[3].Args = []int{1, 77} }),
		"22 arguments":          with(func(f *api.Func) { f.Code[3].Args = slices.Repeat([]int{1}, 22) }),
		"another kind":          with(func(f *api.Func) { f.Regs[0] = 3 }),
		"no kind":               with(func(f *api.Func) { f.Regs[7] = 4 }),
		"no Op":                 with(func(f *api.Func) { f.Code[3].Op = 34 }),
		"no such parameter":     with(func(f *api.Func) { f.Params[0] = 12 }),
		"a parameter twice":     with(func(f *api.Func) { f.Params[0] = 1 }),
		"gives back a long":     with(func(f *api.Func) { f.Ret = 2 }),
		"nobody catches":        with(func(f *api.Func) { f.Rows[0].At = 6 }),
		"about nothing":         with(func(f *api.Func) { f.Rows[0].To = 0 }),
		"about too much":        with(func(f *api.Func) { f.Rows[0].To = 8 }),
		"to a catch":            with(func(f *api.Func) { f.Code[2].To = 5 }),
		"a number to nothing":   with(func(f *api.Func) { f.Code[0].Dst = 5 }),
		"moved to another kind": with(func(f *api.Func) { f.Code[1] = api.Ins{Op: 4, Dst: 8, A: 0} }),
	} {
		if e := ins.Check(f); e == api.OK {
			t.Errorf("%s: %s is well formed", what, told(f))
		}
		checkAll(t, f)
	}
	f := with(func(*api.Func) {})
	if g := checkAll(t, f); g.Code[1].Op != 1 || g.Code[2].Op != 27 {
		t.Errorf("%s becomes %s", told(f), told(g))
	}
}
