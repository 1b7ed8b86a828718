package carry_test

import (
	"slices"
	"strconv"
	"testing"

	"reglet/api"
	"reglet/carry"
	"reglet/ins"
)

// most is how many instructions, and registers, a well formed function can have.
const most = 20000

// intFunc has that code, over so many ints, of which the first one is its argument.
func intFunc(registers int, code ...api.Ins) api.Func {
	return api.Func{Regs: slices.Repeat([]int{1}, registers), Params: []int{0}, Ret: 1, Code: code}
}

// checkReads: what well formed functions read at each place behind Pass is what is said of it.
func checkReads(t *testing.T, f api.Func, want func(i int) []int) {
	t.Helper()
	if e := ins.Check(f); e != api.OK {
		t.Fatalf("%s: %v", told(f), e)
	}
	g := checkPass(t, f)
	for i, x := range g.Code {
		if got := ins.Uses(x); !slices.Equal(got, want(i)) {
			t.Fatalf("at %d of %d it reads %v, want %v", i, len(f.Code), got, want(i))
		}
	}
}

// TestLongRow: each register is a copy of the one ahead of it; all are read at the end.
func TestLongRow(t *testing.T) {
	for _, n := range []int{1, 2, 3, 63, 64, 65, 66, 128, 129, 1000, most / 2} {
		f := intFunc(n)
		for r := 1; r < n; r++ {
			f.Code = append(f.Code, api.Ins{Op: 4, Dst: r, A: r - 1})
		}
		for r := range n {
			f.Code = append(f.Code, api.Ins{Op: 19, A: r})
		}
		f.Code = append(f.Code, api.Ins{Op: 30, A: n - 1})
		checkReads(t, f, func(int) []int { return []int{0} })
	}
}

// TestLongestRow: of as many instructions as there can be.
func TestLongestRow(t *testing.T) {
	f := intFunc(most)
	for r := 1; r < most; r++ {
		f.Code = append(f.Code, api.Ins{Op: 4, Dst: r, A: r - 1})
	}
	f.Code = append(f.Code, api.Ins{Op: 30, A: most - 1})
	checkReads(t, f, func(int) []int { return []int{0} })
	// One instruction, or one register, too many.
	for _, g := range []api.Func{{Regs: f.Regs, Ret: 1, Code: append(slices.Clip(f.Code), f.Code[most-1])}, {Regs: append(slices.Clip(f.Regs), 1), Ret: 1, Code: f.Code}} {
		if ins.Check(g) == api.OK || carry.Pass(g).Code[most-1].A != most-1 {
			t.Errorf("%s is carried", told(g))
		}
	}
}

// TestLongRowOfBlocks: each copy of the one ahead of it has a block to itself; all are read at the end.
func TestLongRowOfBlocks(t *testing.T) {
	for _, n := range []int{2, 64, 65, 66, 1000, most/3 - 1} {
		f := intFunc(n)
		for r := 1; r < n; r++ {
			f.Code = append(f.Code, api.Ins{Op: 4, Dst: r, A: r - 1}, api.Ins{Op: 27, To: len(f.Code) + 2})
		}
		for r := range n {
			f.Code = append(f.Code, api.Ins{Op: 19, A: r})
		}
		f.Code = append(f.Code, api.Ins{Op: 30, A: n - 1})
		checkReads(t, f, func(i int) []int {
			if f.Code[i].Op == 27 {
				return nil
			}
			return []int{0}
		})
	}
}

// TestEachPairByItself: however many copies there are, each is lost where it is written, or what it is a copy of, and no other one is.
func TestEachPairByItself(t *testing.T) {
	for _, n := range []int{1, 2, 63, 64, 65, 127, 128, 129, 200} {
		for _, lost := range []int{0, min(1, n-1), n / 2, n - 1} {
			for side := range 2 {
				// Copy k is of register 2k, and lies in 2k + 1.
				f := intFunc(2 * n)
				for k := range n {
					f.Code = append(f.Code, api.Ins{Op: 4, Dst: 2*k + 1, A: 2 * k})
				}
				f.Code = append(f.Code, api.Ins{Op: 28, To: n + 2}, api.Ins{Op: 1, Dst: 2*lost + side})
				for k := range n {
					f.Code = append(f.Code, api.Ins{Op: 19, A: 2*k + 1})
				}
				f.Code = append(f.Code, api.Ins{Op: 30, A: 0})
				g := checkPass(t, f)
				for k := range n {
					want := 2 * k
					if k == lost {
						want++
					}
					if got := g.Code[n+2+k].A; got != want {
						t.Fatalf("%d copies, %d is lost: of copy %d it reads %d", n, lost, k, got)
					}
				}
			}
		}
	}
}

// TestManyCopiesAndWays: half of the code makes copies, half is ways that lead on and back.
func TestManyCopiesAndWays(t *testing.T) {
	const half = most / 2
	f := intFunc(half)
	for r := 1; r < half; r++ {
		f.Code = append(f.Code, api.Ins{Op: 4, Dst: r, A: r / 2})
	}
	for i := half - 1; i < most-1; i++ {
		to := half + i*i%(half-1)
		f.Code = append(f.Code, api.Ins{Op: 28, Num: 1, A: i % half, B: to % half, To: to})
	}
	f.Code = append(f.Code, api.Ins{Op: 30, A: half - 1})
	checkReads(t, f, func(i int) []int {
		if f.Code[i].Op == 28 {
			return []int{0, 0}
		}
		return []int{0}
	})
	// The last way but one leads to where the first one's source is written, and back.
	f.Code[most-2] = api.Ins{Op: 1, Dst: 0}
	f.Code[most-1] = api.Ins{Op: 27, To: half}
	g := checkPass(t, f)
	if slices.ContainsFunc(g.Code[half:], func(x api.Ins) bool { return x.Op == 28 && x.A == 0 && x.B == 0 }) {
		t.Error("what is written in a circle is read at its beginning")
	}
}

// TestFarWays: places that are gone through from the last to the first make a copy each, and read it when all are made.
func TestFarWays(t *testing.T) {
	const n = most/3 - 1
	f := intFunc(n, api.Ins{Op: 27, To: 2*n - 1})
	for r := 1; r < n; r++ {
		to := 2*r - 3
		if r == 1 {
			to = 2 * n
		}
		f.Code = append(f.Code, api.Ins{Op: 4, Dst: r, A: 0}, api.Ins{Op: 27, To: to})
	}
	f.Code = append(f.Code, api.Ins{Op: 27, To: 2*n - 3})
	for r := range n {
		f.Code = append(f.Code, api.Ins{Op: 19, A: r})
	}
	f.Code = append(f.Code, api.Ins{Op: 30, A: n - 1})
	f.Code[2*n-1].To = 2*n - 3
	checkReads(t, f, func(i int) []int {
		if f.Code[i].Op == 27 {
			return nil
		}
		return []int{0}
	})
}

// TestManyRows: so many calls, and as many rows: row r is about the calls 0 to r. Call r writes register 2r, of which 2r + 1 is a copy; where row r leads, that is read.
func TestManyRows(t *testing.T) {
	const n = 2000
	f := api.Func{Regs: append(slices.Repeat([]int{1}, 2*n), 3), Ret: 1}
	for r := range n {
		f.Code = append(f.Code, api.Ins{Op: 4, Dst: 2*r + 1, A: 2 * r})
	}
	for r := range n {
		f.Code = append(f.Code, api.Ins{Op: 23, Dst: 2 * r})
	}
	f.Code = append(f.Code, api.Ins{Op: 27, To: 2 * n})
	for r := range n {
		f.Rows = append(f.Rows, api.Row{From: n, To: n + r + 1, At: len(f.Code), Class: "c" + strconv.Itoa(r)})
		f.Code = append(f.Code, api.Ins{Op: 32, Dst: 2 * n}, api.Ins{Op: 19, A: 2*r + 1}, api.Ins{Op: 30, A: max(1, 2*r-1)})
	}
	g := checkPass(t, f)
	for r := range n {
		// Call r throws without writing its register; the one ahead of it wrote its own.
		first := 2*n + 1 + 3*r
		if g.Code[first+1].A != 2*r || r > 0 && g.Code[first+2].A != 2*r-1 {
			t.Fatalf("where row %d leads it reads %d and %d", r, g.Code[first+1].A, g.Code[first+2].A)
		}
	}
	// Behind a row of all nothing is caught by the others.
	f.Rows[0] = api.Row{From: n, To: 2 * n, At: f.Rows[0].At}
	g = checkPass(t, f)
	for r := 1; r < n; r++ {
		first := 2*n + 1 + 3*r
		if g.Code[first+1].A != 2*r+1 {
			t.Fatalf("where row %d leads, to which nobody comes, it reads %d", r, g.Code[first+1].A)
		}
	}
}

// TestOneRegisterOfManyCopies: a register that is a copy of another one in each block.
func TestOneRegisterOfManyCopies(t *testing.T) {
	const n = most / 4
	f := intFunc(n + 2)
	for r := range n {
		f.Code = append(f.Code, api.Ins{Op: 4, Dst: n + 1, A: r}, api.Ins{Op: 27, To: len(f.Code) + 2}, api.Ins{Op: 19, A: n + 1}, api.Ins{Op: 1, Dst: n})
	}
	f.Code[4*n-1] = api.Ins{Op: 30, A: n + 1}
	checkReads(t, f, func(i int) []int {
		if i%4 == 1 || i%4 == 3 && i < 4*n-1 {
			return nil
		}
		return []int{i / 4}
	})
}
