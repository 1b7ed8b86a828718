package live_test

import (
	"slices"
	"strconv"
	"testing"

	"reglet/api"
	"reglet/ins"
	"reglet/live"
)

// most is how many instructions, and registers, a well formed function can have.
const most = 20000

// tableOf is a function's table, which must be there.
func tableOf(t *testing.T, f api.Func) *live.Table {
	t.Helper()
	if e := ins.Check(f); e != api.OK {
		t.Fatalf("%s: %v", told(f), e)
	}
	return live.Of(f)
}

// TestFromTheEndToTheBeginning: a register that the last instruction reads is live all the way, up to who writes it.
func TestFromTheEndToTheBeginning(t *testing.T) {
	f := api.Func{Regs: []int{1, 1, 1}, Params: []int{0}, Ret: 1, Code: slices.Repeat([]api.Ins{{Op: 1, Dst: 2}}, most)}
	f.Code[77] = api.Ins{Op: 1, Dst: 1}
	f.Code[most-2], f.Code[most-1] = api.Ins{Op: 5, Num: 96, Dst: 0, A: 0, B: 1}, api.Ins{Op: 30, A: 0}
	table := tableOf(t, f)
	for i := range f.Code {
		isLast := i == most-1
		if !table.Before(i, 0) || table.After(i, 0) == isLast || table.Across(f, i, 0) == (i >= most-2) {
			t.Fatalf("place %d: register 0: %v %v %v", i, table.Before(i, 0), table.After(i, 0), table.Across(f, i, 0))
		}
		if table.Before(i, 1) != (i > 77 && i < most-1) || table.After(i, 1) != (i >= 77 && i < most-2) || table.Across(f, i, 1) != (i > 77 && i < most-2) {
			t.Fatalf("place %d: register 1: %v %v %v", i, table.Before(i, 1), table.After(i, 1), table.Across(f, i, 1))
		}
		if table.Before(i, 2) || table.After(i, 2) || table.Across(f, i, 2) {
			t.Fatalf("place %d: register 2 is live", i)
		}
	}
}

// TestEachRegisterByItself: however many there are, each is live just where it is.
func TestEachRegisterByItself(t *testing.T) {
	for _, n := range []int{1, 2, 63, 64, 65, 66, 127, 128, 129, 192, 193, 300} {
		f := api.Func{Regs: slices.Repeat([]int{1}, n), Ret: 1, Code: []api.Ins{{Op: 33}, {Op: 1}, {Op: 30}}}
		for is := range n {
			f.Code[1].Dst, f.Code[2].A = is, is
			table := tableOf(t, f)
			for r := range n {
				want := r == is
				if table.Before(0, r) || table.After(0, r) || table.Before(1, r) || table.After(1, r) != want || table.Across(f, 1, r) || table.Before(2, r) != want || table.After(2, r) {
					t.Fatalf("%d registers: register %d where %d is read", n, r, is)
				}
			}
		}
	}
}

// TestMostRegisters: as many as there can be, in as much code: each is written, and read so far behind it.
func TestMostRegisters(t *testing.T) {
	f := api.Func{Regs: slices.Repeat([]int{1}, most)}
	const far = most / 2
	for i := range most - 1 {
		if i < far {
			f.Code = append(f.Code, api.Ins{Op: 1, Dst: 2 * i})
		} else {
			f.Code = append(f.Code, api.Ins{Op: 19, A: 2 * (i - far)})
		}
	}
	f.Code = append(f.Code, api.Ins{Op: 30, A: -1})
	table := tableOf(t, f)
	for _, i := range []int{0, 1, 31, 32, 33, 5000, far - 1, far, far + 1, far + 32, 15000, most - 2, most - 1} {
		for r := range most {
			from, to := r/2, far+r/2
			isRead := r%2 == 0 && to < most-1
			if got, want := table.Before(i, r), isRead && i > from && i <= to; got != want {
				t.Fatalf("Before(%d, %d) = %v", i, r, got)
			}
			if got, want := table.After(i, r), isRead && i >= from && i < to; got != want {
				t.Fatalf("After(%d, %d) = %v", i, r, got)
			}
			if got, want := table.Across(f, i, r), isRead && i > from && i < to; got != want {
				t.Fatalf("Across(%d, %d) = %v", i, r, got)
			}
		}
	}
	f.Regs = append(f.Regs, 1)
	if live.Of(f) != nil {
		t.Error("one register too many")
	}
}

// TestLongWays: each place leads to the one ahead of it, the first one to the last; all registers are read at the end.
func TestLongWays(t *testing.T) {
	const n = 300
	f := api.Func{Regs: slices.Repeat([]int{1}, n), Code: []api.Ins{{Op: 27, To: most - 1}}}
	for r := range n {
		f.Code = append(f.Code, api.Ins{Op: 19, A: r})
	}
	f.Code = append(f.Code, api.Ins{Op: 30, A: -1}, api.Ins{Op: 27, To: 1})
	for i := len(f.Code); i < most; i++ {
		f.Code = append(f.Code, api.Ins{Op: 27, To: i - 1})
	}
	table := tableOf(t, f)
	for i := range f.Code {
		for _, r := range []int{0, 1, 63, 64, 200, n - 1} {
			if got, want := table.Before(i, r), i <= r+1 || i > n+1; got != want {
				t.Fatalf("Before(%d, %d) = %v", i, r, got)
			}
			if got, want := table.After(i, r), i <= r || i > n+1; got != want {
				t.Fatalf("After(%d, %d) = %v", i, r, got)
			}
		}
	}
}

// TestReadOnTheWayBack: places that are gone through from the last to the first read a register each, which is live from the last one to there.
func TestReadOnTheWayBack(t *testing.T) {
	const n = 6000
	f := api.Func{Regs: slices.Repeat([]int{1}, n), Code: []api.Ins{{Op: 27, To: 2 * n}, {Op: 30, A: -1}}}
	for r := 1; r < n; r++ {
		f.Code = append(f.Code, api.Ins{Op: 19, A: r}, api.Ins{Op: 27, To: max(1, 2*(r-1))})
	}
	f.Code = append(f.Code, api.Ins{Op: 27, To: 2 * (n - 1)})
	table := tableOf(t, f)
	for _, i := range []int{2, 3, 4, 2 * 63, 2 * 64, 2*64 + 1, 2 * 65, n, n + 1, 2*n - 2, 2*n - 1, 2 * n} {
		for r := 1; r < n; r++ {
			if got, want := table.Before(i, r), r < i/2 || r == i/2 && i%2 == 0 && r < n; got != want {
				t.Fatalf("Before(%d, %d) = %v", i, r, got)
			}
			if got, want := table.Across(f, i, r), r < i/2; got != want {
				t.Fatalf("Across(%d, %d) = %v", i, r, got)
			}
		}
	}
	for r := range n {
		if table.Before(0, r) != (r > 0) || table.Before(1, r) {
			t.Fatalf("register %d at the beginning: %v, at the end %v", r, table.Before(0, r), table.Before(1, r))
		}
	}
}

// manyRows has so many calls, and as many rows: row r is about the calls 0 to r, and where it leads register r is read.
func manyRows(n int) api.Func {
	f := api.Func{Regs: append(slices.Repeat([]int{1}, n), 3), Ret: 1}
	for range n {
		f.Code = append(f.Code, api.Ins{Op: 23, Dst: -1})
	}
	f.Code = append(f.Code, api.Ins{Op: 27, To: n})
	for r := range n {
		f.Rows = append(f.Rows, api.Row{From: 0, To: r + 1, At: len(f.Code), Class: "c" + strconv.Itoa(r)})
		f.Code = append(f.Code, api.Ins{Op: 32, Dst: n}, api.Ins{Op: 30, A: r})
	}
	return f
}

// TestManyRows: a function may have any number of them.
func TestManyRows(t *testing.T) {
	const n = 2000
	f := manyRows(n)
	table := tableOf(t, f)
	for _, i := range []int{0, 1, 62, 63, 64, 65, 1000, n - 2, n - 1} {
		for r := range n {
			if table.Before(i, r) != (r >= i) || table.After(i, r) != (r > i) || table.Across(f, i, r) != (r >= i) {
				t.Fatalf("place %d, register %d: %v %v %v", i, r, table.Before(i, r), table.After(i, r), table.Across(f, i, r))
			}
		}
	}
	f.Rows[0].To = n
	f.Rows[0].Class = ""
	table = tableOf(t, f)
	for r := range n {
		if got, want := table.Before(0, r), r == 0; got != want {
			t.Fatalf("behind a row of all: Before(0, %d) = %v", r, got)
		}
	}
}
