package live_test

import (
	"math"
	"slices"
	"testing"

	"reglet/api"
	"reglet/flow"
	"reglet/ins"
	"reglet/live"
)

// The reference reads the chapter's words as they stand: for each place and each register it walks all ways on from the place. What layers 10 and 11 answer of instructions and places it takes as it says.

// A reference has of each place what it reads and writes, and the places that come behind it.
type reference struct {
	uses, next, caught [][]int
	defs               []int
}

func referenceOf(f api.Func) reference {
	var w reference
	for i, x := range f.Code {
		w.uses = append(w.uses, ins.Uses(x))
		w.defs = append(w.defs, ins.Def(x))
		w.next = append(w.next, flow.Next(f, i))
		w.caught = append(w.caught, flow.Caught(f, i))
	}
	return w
}

// isRead: is there a way from one of the places on to an instruction that reads the register, on which none ahead of that one writes it?
func (w reference) isRead(from []int, r int) bool {
	been := make([]bool, len(w.defs))
	for todo := slices.Clone(from); len(todo) > 0; {
		i := todo[0]
		todo = todo[1:]
		switch {
		case been[i]:
			continue
		case slices.Contains(w.uses[i], r):
			return true
		case w.defs[i] != r:
			todo = append(todo, w.next[i]...)
		}
		// One from which the way leads to where a thing is caught doesn't write.
		todo = append(todo, w.caught[i]...)
		been[i] = true
	}
	return false
}

func (w reference) behind(i, r int) bool { return w.isRead(w.next[i], r) }

func (w reference) across(i, r int) bool {
	isCaught := slices.ContainsFunc(w.caught[i], func(at int) bool { return w.aheadOf(at, r) })
	return isCaught || w.behind(i, r) && w.defs[i] != r
}

func (w reference) aheadOf(i, r int) bool { return slices.Contains(w.uses[i], r) || w.across(i, r) }

// counted are the numbers from 0 on.
func counted(n int) []int {
	l := make([]int, n)
	for i := range l {
		l[i] = i
	}
	return l
}

// noneOf are numbers of none of so many places, or registers.
func noneOf(n int) []int {
	return []int{math.MinInt, math.MinInt + 1, math.MinInt + 64, -1 << 32, -65, -64, -63, -2, -1, n, n + 1, n + 63, n + 64, n + 65, 1 << 32, 1<<32 + 1, math.MaxInt - 63, math.MaxInt - 1, math.MaxInt}
}

// checkReference holds all calls at a function against the reference, at all places and registers and at some that are none.
func checkReference(t *testing.T, f api.Func) {
	t.Helper()
	table := live.Of(f)
	if (table == nil) != (ins.Check(f) != api.OK) {
		t.Fatalf("Of(%s) is nil: %v, but Check says %v", told(f), table == nil, ins.Check(f))
	}
	if table == nil {
		checkNone(t, table, f, slices.Concat(counted(len(f.Code)), noneOf(len(f.Code))), slices.Concat(counted(len(f.Regs)), noneOf(len(f.Regs))))
		return
	}
	w := referenceOf(f)
	for i := range f.Code {
		for r := range f.Regs {
			if got, want := table.Before(i, r), w.aheadOf(i, r); got != want {
				t.Fatalf("%s: Before(%d, %d) = %v", told(f), i, r, got)
			}
			if got, want := table.After(i, r), w.behind(i, r); got != want {
				t.Fatalf("%s: After(%d, %d) = %v", told(f), i, r, got)
			}
			if got, want := table.Across(f, i, r), w.across(i, r); got != want {
				t.Fatalf("%s: Across(%d, %d) = %v", told(f), i, r, got)
			}
		}
	}
	checkNone(t, table, f, counted(len(f.Code)), noneOf(len(f.Regs)))
	checkNone(t, table, f, noneOf(len(f.Code)), slices.Concat(counted(len(f.Regs)), noneOf(len(f.Regs))))
}

// checkNone: none of the registers is live at any of the places.
func checkNone(t *testing.T, table *live.Table, f api.Func, places, registers []int) {
	t.Helper()
	for _, i := range places {
		for _, r := range registers {
			if table.Before(i, r) || table.After(i, r) || table.Across(f, i, r) {
				t.Fatalf("%s: place %d, register %d: %v %v %v", told(f), i, r, table.Before(i, r), table.After(i, r), table.Across(f, i, r))
			}
		}
	}
}
