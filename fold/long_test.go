package fold_test

import (
	"math"
	"reflect"
	"slices"
	"testing"

	"reglet/api"
	"reglet/fold"
	"reglet/ins"
)

// most is how many instructions, and registers, a well formed function can have.
const most = 20000

// intFunc has that code, over so many ints.
func intFunc(registers int, code ...api.Ins) api.Func {
	return api.Func{Regs: slices.Repeat([]int{1}, registers), Ret: 1, Code: code}
}

// checkNumbers: behind Pass each instruction of a well formed function is what is said of it.
func checkNumbers(t *testing.T, f api.Func, want func(i int) api.Ins) {
	t.Helper()
	if e := ins.Check(f); e != api.OK {
		t.Fatalf("%s: %v", told(f), e)
	}
	for i, x := range checkPass(t, f).Code {
		if !reflect.DeepEqual(x, want(i)) {
			t.Fatalf("at %d of %d it has %+v, want %+v", i, len(f.Code), x, want(i))
		}
	}
}

// TestLongChain: one register is added to itself and others, again and again, and becomes one number.
func TestLongChain(t *testing.T) {
	for _, n := range []int{0, 1, 2, 31, 32, 33, 1000, most - 3} {
		f := intFunc(2, api.Ins{Op: 1, Dst: 0, Num: 3}, api.Ins{Op: 1, Dst: 1, Num: 5})
		numbers := []int32{3, 5}
		for i := range n {
			if i%3 == 0 {
				f.Code = append(f.Code, api.Ins{Op: 5, Num: 104, Dst: 0, A: 0, B: 1})
				numbers = append(numbers, lastNumber(numbers)*5)
			} else {
				f.Code = append(f.Code, api.Ins{Op: 5, Num: 96, Dst: 0, A: 1, B: 0})
				numbers = append(numbers, lastNumber(numbers)+5)
			}
		}
		f.Code = append(f.Code, api.Ins{Op: 30})
		checkNumbers(t, f, func(i int) api.Ins {
			switch i {
			case n + 2:
				return f.Code[i]
			case 1:
				return api.Ins{Op: 1, Dst: 1, Num: 5}
			}
			return api.Ins{Op: 1, Dst: 0, Num: int64(numbers[i])}
		})
	}
}

// lastNumber is the chain's: where it begins it is the first of the two.
func lastNumber(l []int32) int32 {
	if len(l) == 2 {
		return l[0]
	}
	return l[len(l)-1]
}

// TestLongestChain: each register is one more than the one ahead of it, in as many as there can be.
func TestLongestChain(t *testing.T) {
	f := intFunc(most, api.Ins{Op: 1, Dst: 0, Num: math.MaxInt32 - 10})
	f.Code = append(f.Code, api.Ins{Op: 1, Dst: 1, Num: 1})
	for r := 2; r < most-1; r++ {
		last := r - 1
		if r == 2 {
			last = 0
		}
		f.Code = append(f.Code, api.Ins{Op: 5, Num: 96, Dst: r, A: last, B: 1})
	}
	f.Code = append(f.Code, api.Ins{Op: 30, A: most - 2})
	checkNumbers(t, f, func(i int) api.Ins {
		if i < 2 || i == most-1 {
			return f.Code[i]
		}
		return api.Ins{Op: 1, Dst: i, Num: int64(int32(math.MaxInt32 - 10 + uint32(i-1)))}
	})
	// One instruction, or one register, too many.
	for _, g := range []api.Func{{Regs: f.Regs, Ret: 1, Code: append(slices.Clip(f.Code), f.Code[most-1])}, {Regs: append(slices.Clip(f.Regs), 1), Ret: 1, Code: f.Code}} {
		if ins.Check(g) == api.OK || !reflect.DeepEqual(fold.Pass(g), g) {
			t.Errorf("%s is folded", told(g))
		}
	}
}

// TestManyNumbers: half of the code has numbers, each in a register of its own; half reads them.
func TestManyNumbers(t *testing.T) {
	const half = most / 2
	f := intFunc(most)
	for r := range half {
		f.Code = append(f.Code, api.Ins{Op: 1, Dst: r, Num: int64(r * r)})
	}
	for r := range half - 1 {
		f.Code = append(f.Code, api.Ins{Op: 5, Num: 100, Dst: half + r, A: half - 1 - r, B: r})
	}
	f.Code = append(f.Code, api.Ins{Op: 30, A: half})
	checkNumbers(t, f, func(i int) api.Ins {
		if i < half || i == most-1 {
			return f.Code[i]
		}
		r := i - half
		return api.Ins{Op: 1, Dst: i, Num: int64((half-1-r)*(half-1-r) - r*r)}
	})
	// Behind a way nothing of it is known.
	f.Code[half] = api.Ins{Op: 29, A: half, B: -1}
	f.Regs[half] = 3
	f.Code[most-1].A = 0
	checkNumbers(t, f, func(i int) api.Ins { return f.Code[i] })
}

// TestManyBlocks: each way begins a block, in which a number of its own is known, and no other one's.
func TestManyBlocks(t *testing.T) {
	const n = most/5 - 1
	f := intFunc(n + 1)
	for r := range n {
		// What the last block's number makes it makes by itself; this one's is known, and a way on that isn't.
		at := 5 * r
		f.Code = append(f.Code, api.Ins{Op: 6, Num: 116, Dst: n, A: max(r-1, 0)}, api.Ins{Op: 1, Dst: r, Num: int64(r)}, api.Ins{Op: 6, Num: 116, Dst: n, A: r}, api.Ins{Op: 28, Num: int64(r % 6), A: n, B: r, To: at / 2}, api.Ins{Op: 28, A: n, B: r, To: at + 4})
	}
	f.Code = append(f.Code, api.Ins{Op: 30, A: n})
	g := checkPass(t, f)
	for r := range n {
		at := 5 * r
		if g.Code[at].Op != 6 || g.Code[at+4].Op != 28 {
			t.Fatalf("in block %d of other blocks is known what isn't: %+v", r, g.Code[at:at+5])
		}
		// Ways lead into the midst of the first half of the blocks.
		if r > n/2 && (!reflect.DeepEqual(g.Code[at+2], api.Ins{Op: 1, Dst: n, Num: int64(-r)}) || g.Code[at+3].Op == 28) {
			t.Fatalf("in block %d isn't folded what is known: %+v", r, g.Code[at:at+5])
		}
	}
}

// TestManyRows: rows in one another cut the code at each place: nothing is known behind any of them.
func TestManyRows(t *testing.T) {
	const n = 4000
	f := api.Func{Regs: []int{1, 1, 3}, Ret: 1}
	for range n {
		f.Code = append(f.Code, api.Ins{Op: 1, Dst: 0, Num: 4}, api.Ins{Op: 6, Num: 116, Dst: 1, A: 0})
	}
	f.Code = append(f.Code, api.Ins{Op: 31, A: 2}, api.Ins{Op: 32, Dst: 2}, api.Ins{Op: 30, A: 1})
	for i := range n {
		f.Rows = append(f.Rows, api.Row{From: i, To: 2*n - i, At: 2*n + 1})
	}
	checkNumbers(t, f, func(i int) api.Ins { return f.Code[i] })
	// Where rows lie between pairs alone, each pair is known.
	f.Rows = f.Rows[:0]
	for i := range n / 2 {
		f.Rows = append(f.Rows, api.Row{From: 2 * i, To: 2*n - 2*i, At: 2*n + 1})
	}
	checkNumbers(t, f, func(i int) api.Ins {
		if i < 2*n && i%2 == 1 {
			return api.Ins{Op: 1, Dst: 1, Num: -4}
		}
		return f.Code[i]
	})
}
