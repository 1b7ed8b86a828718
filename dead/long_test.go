package dead_test

import (
	"reflect"
	"slices"
	"strconv"
	"testing"

	"reglet/api"
	"reglet/dead"
	"reglet/ins"
)

// most is how many instructions, and registers, a well formed function can have.
const most = 20000

// intFunc has that code, over so many ints.
func intFunc(registers int, code ...api.Ins) api.Func {
	return api.Func{Regs: slices.Repeat([]int{1}, registers), Ret: 1, Code: code}
}

// checkTaken: behind Pass just those of the pure instructions of a well formed function are gone of which that is said.
func checkTaken(t *testing.T, f api.Func, isTaken func(i int) bool) {
	t.Helper()
	if e := ins.Check(f); e != api.OK {
		t.Fatalf("%s: %v", told(f), e)
	}
	for i, x := range checkPass(t, f).Code {
		if want := ins.Pure(f.Code[i]) && isTaken(i); (x.Op == 33) != (want || f.Code[i].Op == 33) {
			t.Fatalf("%s: at %d it has %+v, want it taken away: %v", told(f), i, x, want)
		}
	}
}

func all(int) bool  { return true }
func none(int) bool { return false }

// TestLongRow: each register is a copy of the one ahead of it, in so many registers, one again and again.
func TestLongRow(t *testing.T) {
	for _, n := range []int{1, 2, 3, 63, 64, 65, 66, 127, 128, 129, 1000, most - 2} {
		for _, registers := range []int{1, 2, 3, 64, 65, n + 1} {
			f := intFunc(registers + 1)
			for i := range n {
				f.Code = append(f.Code, api.Ins{Op: 4, Dst: (i + 1) % registers, A: i % registers})
			}
			f.Code = append(f.Code, api.Ins{Op: 30, A: registers})
			checkTaken(t, f, all)
			// The last one is read.
			f.Code[n].A = n % registers
			checkTaken(t, f, none)
			// The one in the midst is.
			f.Code[n].A = registers
			f.Code[n/2] = api.Ins{Op: 19, A: n / 2 % registers}
			checkTaken(t, f, func(i int) bool { return i > n/2 })
		}
	}
}

// TestTooLong: what isn't well formed for one instruction, or one register, too many stays.
func TestTooLong(t *testing.T) {
	f := intFunc(most, slices.Repeat([]api.Ins{{Op: 1, Dst: most - 1}}, most-1)...)
	f.Code = append(f.Code, api.Ins{Op: 30})
	checkTaken(t, f, all)
	for _, g := range []api.Func{{Regs: f.Regs, Ret: 1, Code: append(slices.Clip(f.Code), f.Code[most-1])}, {Regs: append(slices.Clip(f.Regs), 1), Ret: 1, Code: f.Code}} {
		if ins.Check(g) == api.OK || !reflect.DeepEqual(dead.Pass(g), g) {
			t.Errorf("%s doesn't stay as it is", told(g))
		}
	}
}

// TestLongRowOfBlocks: each copy of the one ahead of it has a block to itself; the blocks lie in order, or the last one first.
func TestLongRowOfBlocks(t *testing.T) {
	for _, registers := range []int{2, most/2 + 1} {
		for _, n := range []int{1, 2, 64, 65, 1000, most/2 - 1} {
			row := func(k int, to int) []api.Ins {
				return []api.Ins{{Op: 4, Dst: (k + 1) % registers, A: k % registers}, {Op: 27, To: to}}
			}
			inOrder, laidBack := intFunc(registers+1), intFunc(registers+1, api.Ins{Op: 27, To: 2 * n}, api.Ins{Op: 30})
			for k := range n {
				inOrder.Code = append(inOrder.Code, row(k, 2*k+2)...)
				laidBack.Code = append(laidBack.Code, row(n-1-k, max(1, 2*k))...)
			}
			inOrder.Code = append(inOrder.Code, api.Ins{Op: 30})
			for _, f := range []api.Func{inOrder, laidBack} {
				last := slices.IndexFunc(f.Code, func(x api.Ins) bool { return x.Op == 30 })
				f.Code[last].A = registers
				checkTaken(t, f, all)
				f.Code[last].A = n % registers
				checkTaken(t, f, none)
			}
		}
	}
}

// TestAgainstACircle: in one circle of ways each register is a copy of the one behind it, so that one goes round once for each.
func TestAgainstACircle(t *testing.T) {
	for _, n := range []int{1, 2, 63, 64, 65, 500, most/2 - 1} {
		f := intFunc(n + 1)
		for k := range n {
			f.Code = append(f.Code, api.Ins{Op: 4, Dst: k, A: k + 1})
		}
		f.Code = append(f.Code, api.Ins{Op: 19, A: n}, api.Ins{Op: 27})
		checkTaken(t, f, all)
		// The first one is read in the circle.
		f.Code[n].A = 0
		checkTaken(t, f, none)
		// It reads itself.
		f.Code[n].A = n
		f.Code[0] = api.Ins{Op: 5, Num: 96, Dst: 0, A: 0, B: 1}
		checkTaken(t, f, none)
	}
}

// TestManyReaders: one register is read by as many as there can be.
func TestManyReaders(t *testing.T) {
	const n = most - 3
	f := intFunc(most, api.Ins{Op: 1, Dst: 0, Num: 7})
	for r := range n {
		f.Code = append(f.Code, api.Ins{Op: 4, Dst: r + 1, A: 0})
	}
	f.Code = append(f.Code, api.Ins{Op: 19, A: n + 1}, api.Ins{Op: 30, A: n + 1})
	checkTaken(t, f, all)
	for _, k := range []int{0, n / 2} {
		f.Code[n+1].A = k
		checkTaken(t, f, func(i int) bool { return i > 0 && i != k })
	}
}

// TestManyWritersAndReaders: one register is written on so many ways, and read by as many where these meet.
func TestManyWritersAndReaders(t *testing.T) {
	const n = most/3 - 2
	f := intFunc(n + 3)
	for range n {
		f.Code = append(f.Code, api.Ins{Op: 1, Dst: n}, api.Ins{Op: 28, A: n + 1, B: n + 1, To: 2 * n})
	}
	for r := range n {
		f.Code = append(f.Code, api.Ins{Op: 4, Dst: r, A: n})
	}
	f.Code = append(f.Code, api.Ins{Op: 19, A: n + 1}, api.Ins{Op: 30, A: n + 1})
	checkTaken(t, f, all)
	f.Code[3*n].A = n - 1
	checkTaken(t, f, func(i int) bool { return i >= 2*n && i != 3*n-1 })
	f.Code[3*n].A = n
	checkTaken(t, f, func(i int) bool { return i >= 2*n })
	// Some of them write it where nobody comes to who reads it.
	f.Code[2*n-1] = api.Ins{Op: 30, A: n + 1}
	f.Code[n-1].To = 2*n - 1
	checkTaken(t, f, func(i int) bool { return i >= 2*n || i == 2*n-2 || i == n-2 })
}

// TestEachRegisterByItself: so many are written, and read far behind by what is dead, but for some that are read by others.
func TestEachRegisterByItself(t *testing.T) {
	for _, n := range []int{1, 31, 32, 33, 63, 64, 65, 100, 4000} {
		f := intFunc(2*n + 1)
		for r := range n {
			f.Code = append(f.Code, api.Ins{Op: 1, Dst: r, Num: int64(r)})
		}
		for r := range n {
			f.Code = append(f.Code, api.Ins{Op: 6, Num: 116, Dst: n + r, A: r})
		}
		f.Code = append(f.Code, api.Ins{Op: 30, A: 2 * n})
		checkTaken(t, f, all)
		isRead := func(r int) bool { return r%7 == 3 || r == n-1 }
		for r := range n {
			if isRead(r) {
				f.Code[n+r] = api.Ins{Op: 19, A: r}
			}
		}
		checkTaken(t, f, func(i int) bool { return !isRead(i % n) })
	}
}

// TestMostRegisters: each is written once, and every third one is read.
func TestMostRegisters(t *testing.T) {
	f := intFunc(most)
	const n = most * 3 / 4
	for r := range n {
		f.Code = append(f.Code, api.Ins{Op: 1, Dst: most - 1 - r})
	}
	for r := 0; len(f.Code) < most-1; r += 3 {
		f.Code = append(f.Code, api.Ins{Op: 19, A: most - 1 - r})
	}
	f.Code = append(f.Code, api.Ins{Op: 30, A: most - 1})
	checkTaken(t, f, func(i int) bool { return i%3 > 0 || i >= 3*(most-1-n) })
}

// TestManyRows: so many calls, and as many rows: row r is about the calls 0 to r, and where it leads register r is read.
func TestManyRows(t *testing.T) {
	const n = 700
	for _, isRead := range []func(r int) bool{none, all, func(r int) bool { return r%5 == 0 }} {
		f := api.Func{Regs: append(slices.Repeat([]int{1}, n+2), 3), Ret: 1}
		for r := range n {
			f.Code = append(f.Code, api.Ins{Op: 1, Dst: r})
		}
		for range n {
			f.Code = append(f.Code, api.Ins{Op: 23, Dst: -1})
		}
		f.Code = append(f.Code, api.Ins{Op: 30, A: n})
		for r := range n {
			f.Rows = append(f.Rows, api.Row{From: n, To: n + r + 1, At: len(f.Code), Class: "c" + strconv.Itoa(r)})
			read := api.Ins{Op: 4, Dst: n + 1, A: r}
			if isRead(r) {
				read = api.Ins{Op: 19, A: r}
			}
			f.Code = append(f.Code, api.Ins{Op: 32, Dst: n + 2}, read, api.Ins{Op: 30, A: n})
		}
		checkTaken(t, f, func(i int) bool { return i >= n || !isRead(i) })
	}
}
