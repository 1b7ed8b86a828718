package ins_test

import (
	"slices"
	"testing"

	"reglet/api"
	"reglet/ins"
)

// full is an instruction with something else in each field.
func full(op int) api.Ins {
	return api.Ins{Op: op, Dst: 10, A: 11, B: 12, C: 13, Num: 17, To: 16, Ref: "La;", Args: []int{14, 15, 14}}
}

// counted are the numbers from one on.
func counted(from, n int) []int {
	var l []int
	for i := range n {
		l = append(l, from+i)
	}
	return l
}

// TestReplaceEachOp, told by hand: what is read gets the registers in order, everything else stays.
func TestReplaceEachOp(t *testing.T) {
	for op, words := range words() {
		want := full(op)
		n := 20
		next := func() int {
			n++
			return n
		}
		for _, word := range words {
			switch word {
			case "A":
				want.A = next()
			case "B":
				want.B = next()
			case "C":
				want.C = next()
			case "Args":
				want.Args = []int{next(), next(), next()}
			}
		}
		if got := ins.Replace(full(op), counted(21, n-20)); !same(got, want) {
			t.Errorf("Replace of %d = %+v, want %+v", op, got, want)
		}
	}
}

// TestReplaceByOtherCounts: fewer, more or none leave an instruction as it is.
func TestReplaceByOtherCounts(t *testing.T) {
	for op := -1; op <= 35; op++ {
		for _, x := range []api.Ins{full(op), {Op: op, A: 1, B: -1}, {Op: op, A: -1, B: 2, Args: []int{}}, {Op: op, Args: counted(5, 21)}} {
			uses := len(ins.Uses(x))
			for n := range 25 {
				if got := ins.Replace(x, counted(30, n)); n != uses && !same(got, x) {
					t.Errorf("Replace(%+v) by %d registers = %+v", x, n, got)
				}
				checkReplace(t, x, counted(30, n))
				checkReplace(t, x, make([]int, n))
			}
			if got := ins.Replace(x, nil); !same(got, x) {
				t.Errorf("Replace(%+v) by none = %+v", x, got)
			}
		}
	}
}

// TestReplaceFieldsThatMayHaveNone: a field without a register gets none, nor is one of it wanted.
func TestReplaceFieldsThatMayHaveNone(t *testing.T) {
	for _, c := range []struct {
		x    api.Ins
		l    []int
		a, b int
	}{
		{api.Ins{Op: 29, A: 1, B: -1}, []int{7}, 7, -1},
		{api.Ins{Op: 29, A: 1, B: -1}, []int{7, 8}, 1, -1},
		{api.Ins{Op: 29, A: 1, B: -4}, []int{7}, 7, -4},
		{api.Ins{Op: 29, A: 1, B: 0}, []int{7}, 1, 0},
		{api.Ins{Op: 29, A: 1, B: 0}, []int{7, 8}, 7, 8},
		{api.Ins{Op: 29, A: 1, B: 0}, []int{7, -1}, 7, -1},
		{api.Ins{Op: 30, A: -1, B: 3}, []int{7}, -1, 3},
		{api.Ins{Op: 30, A: 0, B: 3}, []int{7}, 7, 3},
		{api.Ins{Op: 30, A: 0, B: 3}, []int{-1}, -1, 3},
		{api.Ins{Op: 31, A: -1, B: 3}, []int{-2}, -2, 3},
	} {
		want := c.x
		want.A, want.B = c.a, c.b
		if got := ins.Replace(c.x, c.l); !same(got, want) {
			t.Errorf("Replace(%+v, %v) = %+v, want %+v", c.x, c.l, got, want)
		}
	}
}

// TestReplaceThereAndBack: what was read, put back, gives what there was; and what was put in is read.
func TestReplaceThereAndBack(t *testing.T) {
	for op := -1; op <= 35; op++ {
		for _, x := range []api.Ins{
			full(op), {Op: op}, {Op: op, A: 1, B: -1}, {Op: op, A: -1, B: 1, C: -1}, {Op: op, A: 3, B: 3, C: 3, Args: []int{3, 3, 3}},
			{Op: op, A: 2, B: 1, C: 0, Args: counted(5, 21)}, {Op: op, Dst: -1, A: -9, B: -8, C: -7, Args: []int{-1}},
		} {
			uses := ins.Uses(x)
			if got := ins.Replace(x, uses); !same(got, x) {
				t.Errorf("%+v with its own registers is %+v", x, got)
			}
			for _, l := range [][]int{counted(40, len(uses)), make([]int, len(uses)), slices.Repeat([]int{9}, len(uses))} {
				y := ins.Replace(x, l)
				if got := ins.Uses(y); !slices.Equal(got, l) {
					t.Errorf("Replace(%+v, %v) reads %v", x, l, got)
				}
				if back := ins.Replace(y, uses); !same(back, x) {
					t.Errorf("%+v is %+v with what it read put back", x, back)
				}
			}
		}
	}
}
