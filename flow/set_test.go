package flow_test

import (
	"slices"
	"testing"

	"reglet/api"
	"reglet/flow"
	"reglet/ins"
)

func TestSet(t *testing.T) {
	for _, c := range []struct {
		what string
		f    api.Func
		want bool
	}{
		{"nothing is read", given(fn("const 0, return -1")), true},
		{"no registers", api.Func{Code: []api.Ins{{Op: 30, A: -1}}}, true},
		{"a parameter", given(fn("print 0, return -1"), 0), true},
		{"another parameter", given(fn("print 0, return -1"), 1, 2, 3), false},
		{"written ahead", given(fn("const 0, print 0, return -1")), true},
		{"another one written ahead", given(fn("const 1, print 0, return -1")), false},
		{"written behind", given(fn("print 0, const 0, return -1")), false},
		{"written by what reads it", given(fn("move 0 0, return -1")), false},
		{"copied", given(fn("const 0, move 1 0, print 1, return -1")), true},
		{"only what is given back is read", api.Func{Regs: []int{1}, Ret: 1, Code: []api.Ins{{Op: 30, A: 0}}}, false},
		{"what is given back is a parameter", api.Func{Regs: []int{1}, Params: []int{0}, Ret: 1, Code: []api.Ins{{Op: 30, A: 0}}}, true},
		{"the second one that is read", given(fn("if 0 1 1, return -1"), 0), false},
		{"none is compared", given(fn("ifref 2 -1 1, return -1"), 2), true},
		{"an argument", given(api.Func{Regs: []int{1, 1}, Code: []api.Ins{{Op: 26, Dst: -1, Args: []int{0, 1}}, {Op: 30, A: -1}}}, 0), false},
		{"all arguments", given(api.Func{Regs: []int{1, 1}, Code: []api.Ins{{Op: 26, Dst: -1, Args: []int{0, 1, 0}}, {Op: 30, A: -1}}}, 0, 1), true},
		{"what can't be reached", given(fn("return -1, print 0, return -1")), true},

		{"on one way only", given(fn("if 1 1 2, const 0, print 0, return -1"), 1), false},
		{"on the other way only", given(fn("if 1 1 3, nop, goto 4, const 0, print 0, return -1"), 1), false},
		{"on all ways", given(fn("if 1 1 3, const 0, goto 4, const 0, print 0, return -1"), 1), true},
		{"on the way to where it is read", given(fn("if 1 1 3, const 0, print 0, return -1"), 1), true},
		{"on one of three ways not", given(fn("if 1 1 5, if 1 1 4, const 0, goto 5, const 0, print 0, return -1"), 1), false},
		{"a way over it", given(fn("goto 2, const 0, print 0, return -1")), false},

		{"by what throws, and goes on", given(fn("new 2, check 2, return -1")), true},
		{"by what throws, and is caught", given(fn("new 2, return -1, catch 3, check 2, return -1", "0/1:2 a")), false},
		{"ahead of what throws", given(fn("new 2, new 2, return -1, catch 3, check 2, return -1", "1/2:3 a")), true},
		{"a call", given(fn("call 0, print 0, return -1")), true},
		{"a call that is caught", given(fn("call 0, return -1, catch 2, print 0, return -1", "0/1:2 a")), false},
		{"a call that is caught behind it", given(fn("call 0, call -1, return -1, catch 2, print 0, return -1", "1/2:3 a")), true},
		{"one of two that are caught", given(fn("call 0, call -1, return -1, catch 2, print 0, return -1", "0/2:3 a")), false},
		{"caught by a row that is about another place", given(fn("call 0, nop, return -1, catch 2, print 0, return -1", "1/2:3 a")), true},
		{"behind a row of all", given(fn("call 0, return -1, catch 2, return -1, catch 2, print 0, return -1", "0/1:2", "0/1:4 a")), true},
		{"behind a row of some", given(fn("call 0, return -1, catch 2, return -1, catch 2, print 0, return -1", "0/1:2 b", "0/1:4 a")), false},
		{"a number that can't be thrown", given(fn("const 0, return -1, catch 2, print 0, return -1", "0/1:2 a")), true},
		{"read by what throws", given(fn("array 2 0, return -1")), false},
		{"read by OpThrow", given(fn("throw 2")), false},
		{"written on the ways of one stretch later than thrown", given(fn("call -1, const 0, call -1, return -1, catch 2, print 0, return -1", "0/3:4 a")), false},
		{"thrown unset by a way that comes later", given(fn("const 0, call -1, if 1 1 5, const 1, goto 0, return -1, catch 2, print 1, return -1", "1/2:6 a"), 1), true},

		{"thrown unset by the first of two ways", given(fn("ifref 2 -1 4, const 0, call -1, return -1, const 1, call -1, return -1, catch 3, print 0, return -1", "0/7:7 a"), 2), false},
		{"thrown unset by the second of two ways", given(fn("ifref 2 -1 4, const 0, call -1, return -1, const 1, call -1, return -1, catch 3, print 1, return -1", "0/7:7 a"), 2), false},
		{"thrown by two ways, written on both", given(fn("ifref 2 -1 4, const 0, call -1, return -1, const 0, call -1, return -1, catch 3, print 0, return -1", "0/7:7 a"), 2), true},
		{"thrown again in a circle, by another row", given(fn("call 0, call 1, return -1, catch 2, print 1, goto 0, catch 2, goto 0", "0/1:6 a", "1/2:3 a"), 1), true},

		{"by a catch", given(fn("call -1, return -1, catch 2, check 2, return -1", "0/1:2 a")), true},
		{"another one by a catch", given(fn("call -1, return -1, catch 3, check 2, return -1", "0/1:2 a")), false},
		{"thrown by a catch's own thing", given(fn("call -1, return -1, catch 2, throw 2", "0/1:2 a")), true},

		{"in a circle, ahead", given(fn("const 0, print 0, goto 1")), true},
		{"in a circle, behind", given(fn("print 0, const 0, goto 0")), false},
		{"in a circle that begins behind", given(fn("goto 2, print 0, const 0, if 1 1 1, return -1"), 1), true},
		{"in a circle of two beginnings", given(fn("if 1 1 2, print 0, const 0, goto 1"), 1), false},
		{"a circle back to the beginning", given(fn("nop, const 0, goto 0")), true},

		{"no instructions", api.Func{}, false},
		{"not well formed: doesn't end", fn("nop"), false},
		{"not well formed: to no place", fn("goto 1"), false},
		{"not well formed: no such register", fn("print 4, return -1"), false},
		{"not well formed, where nobody goes", fn("return -1, print 9, return -1"), false},
		{"not well formed: a parameter twice", given(fn("return -1"), 0, 0), false},
		{"not well formed: no such parameter", given(fn("return -1"), 4), false},
		{"not well formed: a row about nothing", fn("return -1, catch 2, return -1", "1/1:1"), false},
		{"not well formed: no Op", api.Func{Code: []api.Ins{{Op: 34}, {Op: 30, A: -1}}}, false},
	} {
		if got := flow.Set(c.f); got != c.want {
			t.Errorf("%s: Set(%s) = %v", c.what, told(c.f), got)
		}
		checkReference(t, c.f)
	}
}

// countedFunc has so many int registers, writes all but one, and reads them all.
func countedFunc(n, missing int) api.Func {
	f := api.Func{Regs: slices.Repeat([]int{1}, n)}
	for r := range n {
		if r != missing {
			f.Code = append(f.Code, api.Ins{Op: 1, Dst: r})
		}
	}
	for r := range n {
		f.Code = append(f.Code, api.Ins{Op: 19, A: r})
	}
	f.Code = append(f.Code, api.Ins{Op: 30, A: -1})
	return f
}

// TestSetOfManyRegisters: each counts, however many there are.
func TestSetOfManyRegisters(t *testing.T) {
	for _, n := range []int{1, 2, 31, 32, 33, 63, 64, 65, 127, 128, 129, 200} {
		if !flow.Set(countedFunc(n, -1)) {
			t.Errorf("%d registers, all written", n)
		}
		for missing := range n {
			f := countedFunc(n, missing)
			if flow.Set(f) {
				t.Errorf("%d registers, all but %d written", n, missing)
			}
			f.Params = []int{missing}
			if !flow.Set(f) {
				t.Errorf("%d registers, %d by an argument", n, missing)
			}
			f.Params = []int{(missing + 1) % n}
			if want := n == 1; flow.Set(f) != want {
				t.Errorf("%d registers, an argument in %d, but not in %d", n, f.Params[0], missing)
			}
		}
	}
}

// TestSetOfEachOp: what each Op reads must be set, one register after the other.
func TestSetOfEachOp(t *testing.T) {
	for op := 1; op <= 33; op++ {
		f := api.Func{Regs: []int{1, 1, 2, 2, 3, 3}, Code: []api.Ins{{Op: 27, To: 2}, {Op: 32, Dst: 4}, fullest(op), {Op: 30, A: -1}}}
		if op == 32 {
			f.Code[2] = api.Ins{Op: 33}
		}
		if e := ins.Check(f); e != api.OK {
			t.Fatalf("%d: %v", op, e)
		}
		uses := ins.Uses(f.Code[2])
		f.Params = once(uses)
		if !flow.Set(f) {
			t.Errorf("%d: what it reads are parameters", op)
		}
		for _, r := range uses {
			f.Params = slices.DeleteFunc(once(uses), func(other int) bool { return other == r })
			if flow.Set(f) {
				t.Errorf("%d: it reads %d", op, r)
			}
		}
		checkReference(t, f)
	}
}

// fullest is of an Op an instruction that reads as many registers as it can. Registers 0 and 1 are ints, 2 and 3 longs, 4 and 5 references.
func fullest(op int) api.Ins {
	x := api.Ins{Op: op, Dst: -1, A: -1, To: 3, Ref: "I"}
	used := map[rune]int{'I': 0, 'J': 2, 'R': 4}
	for i, letter := range kindsOf[op] {
		if letter == '-' {
			continue
		}
		*[]*int{&x.Dst, &x.A, &x.B, &x.C}[i] = used[letter]
		if i > 0 {
			used[letter]++
		}
	}
	switch op {
	case 5:
		x.Num = 96
	case 6:
		x.Num = 116
	case 23, 24, 25, 26:
		x.Args = []int{5, 0, 2, 1, 4}
	}
	return x
}
