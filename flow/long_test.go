package flow_test

import (
	"slices"
	"strconv"
	"testing"

	"reglet/api"
	"reglet/flow"
	"reglet/ins"
)

// most is how many instructions, and registers, a well formed function can have.
const most = 20000

// TestMostRegisters: as many as there can be, each but one written ahead of all that read them.
func TestMostRegisters(t *testing.T) {
	f := api.Func{Regs: slices.Repeat([]int{1}, most)}
	for r := range most / 2 {
		f.Code = append(f.Code, api.Ins{Op: 1, Dst: 2 * r}, api.Ins{Op: 19, A: 2 * r})
	}
	f.Code[most-2], f.Code[most-1] = api.Ins{Op: 19, A: 0}, api.Ins{Op: 30, A: -1}
	for _, missing := range []int{-1, 0, 62, 64, 9998, 19996} {
		g := ins.Copy(f)
		if missing >= 0 {
			g.Code[missing].Dst++
		}
		if e := ins.Check(g); e != api.OK {
			t.Fatal(e)
		}
		if got := flow.Set(g); got != (missing < 0) {
			t.Errorf("all but %d written: %v", missing, got)
		}
	}
	if g := flow.Trim(f); !sameFunc(f, g) {
		t.Error("a function without anything to trim is trimmed")
	}
	f.Code = append(f.Code, api.Ins{Op: 30, A: -1})
	if flow.Set(f) || !sameFunc(flow.Trim(f), f) {
		t.Error("one instruction too many is well formed")
	}
}

// TestLongWays: each place leads to the one ahead of it, and the first one to the last.
func TestLongWays(t *testing.T) {
	f := given(fn("goto 19999, print 0, return -1, goto 1"))
	for i := len(f.Code); i < most; i++ {
		f.Code = append(f.Code, api.Ins{Op: 27, To: i - 1})
	}
	// Only behind the print begins no block.
	if len(places(flow.Reach(f))) != most || len(flow.Heads(f)) != most-1 {
		t.Errorf("%d places are reached, %d blocks", len(places(flow.Reach(f))), len(flow.Heads(f)))
	}
	if flow.Set(f) {
		t.Error("a register that is never written is set")
	}
	f.Params = []int{0}
	if !flow.Set(f) || !sameFunc(flow.Trim(f), f) {
		t.Error("it isn't set, or something is trimmed")
	}
}

// TestLongRest: what does nothing is taken away, be it nearly all.
func TestLongRest(t *testing.T) {
	f := api.Func{Code: slices.Repeat([]api.Ins{{Op: 33}}, most)}
	f.Code[most-1] = api.Ins{Op: 27, To: 0}
	if got := flow.Trim(f); !sameFunc(got, api.Func{Code: []api.Ins{{Op: 27}}}) {
		t.Errorf("Trim(%s) = %s", told(f), told(got))
	}
	f.Code[0] = api.Ins{Op: 30, A: -1}
	if got := flow.Trim(f); !sameFunc(got, api.Func{Code: []api.Ins{{Op: 30, A: -1}}}) {
		t.Errorf("Trim(%s) = %s", told(f), told(got))
	}
}

// manyRows has so many places that throw, each caught somewhere else, in rows of which each is about all ahead of it too.
func manyRows(n int) api.Func {
	f := given(fn("nop"), 2)
	for range n {
		f.Code = append(f.Code, api.Ins{Op: 23, Dst: 0})
	}
	f.Code = append(f.Code, api.Ins{Op: 30, A: -1})
	for i := range n {
		f.Rows = append(f.Rows, api.Row{From: 0, To: 2 + i, At: len(f.Code), Class: "c" + strconv.Itoa(i)})
		f.Code = append(f.Code, api.Ins{Op: 32, Dst: 2}, api.Ins{Op: 31, A: 2})
	}
	return f
}

// TestManyRows: a function may have any number of them.
func TestManyRows(t *testing.T) {
	const n = 3000
	f := manyRows(n)
	if e := ins.Check(f); e != api.OK {
		t.Fatal(e)
	}
	if l := flow.Caught(f, 1); len(l) != n || l[0] != n+2 || l[n-1] != 3*n {
		t.Errorf("%d rows catch what the first call throws", len(l))
	}
	if l := flow.Caught(f, n); len(l) != 1 || l[0] != 3*n {
		t.Errorf("%v catch what the last call throws", l)
	}
	if len(places(flow.Reach(f))) != len(f.Code) || !flow.Set(f) {
		t.Error("all is reached, and set")
	}
	g := flow.Trim(f)
	if len(g.Code) != len(f.Code)-1 || len(g.Rows) != n || g.Rows[n-1].At != 3*n-1 || g.Rows[n-1].To != n {
		t.Errorf("trimmed: %s", told(g))
	}
	f.Code[3*n+1] = api.Ins{Op: 19, A: 0}
	f.Code = append(f.Code, api.Ins{Op: 30, A: -1})
	if e := ins.Check(f); e != api.OK || flow.Set(f) {
		t.Errorf("%v: what a call would have written is set where it is caught", e)
	}
}
