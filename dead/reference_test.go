package dead_test

import (
	"reflect"
	"slices"
	"testing"

	"reglet/api"
	"reglet/dead"
	"reglet/flow"
	"reglet/ins"
	"reglet/live"
)

// The reference reads the chapter's words as they stand: what is dead by all that is live is taken away, and what is dead then, and so on. What layers 10, 11 and 13 answer of instructions, ways and liveness it takes as it says.

// deadOf are the places at which a well formed function has something pure whose register is dead, by a table.
func deadOf(f api.Func, table *live.Table) []int {
	var l []int
	for i, x := range f.Code {
		if ins.Pure(x) && !table.After(i, ins.Def(x)) {
			l = append(l, i)
		}
	}
	return l
}

// without is a function with OpNop at some places.
func without(f api.Func, places []int) api.Func {
	g := ins.Copy(f)
	for _, i := range places {
		g.Code[i] = api.Ins{Op: 33}
	}
	return g
}

// reference is what becomes of a well formed function, one round behind the other, and in how many rounds.
func reference(f api.Func) (api.Func, int) {
	for rounds := 0; ; rounds++ {
		l := deadOf(f, live.Of(f))
		if len(l) == 0 {
			return f, rounds
		}
		f = without(f, l)
	}
}

// checkShape: the output has as many instructions, each as it was or OpNop where it was pure, and all else of the function.
func checkShape(t *testing.T, f, g api.Func) {
	t.Helper()
	if !slices.Equal(g.Regs, f.Regs) || !slices.Equal(g.Params, f.Params) || g.Ret != f.Ret || !slices.Equal(g.Rows, f.Rows) {
		t.Fatalf("%s becomes %s", told(f), told(g))
	}
	if len(g.Code) != len(f.Code) {
		t.Fatalf("%s becomes %s: %d instructions", told(f), told(g), len(g.Code))
	}
	for i, x := range f.Code {
		isTaken := ins.Pure(x) && reflect.DeepEqual(g.Code[i], api.Ins{Op: 33})
		if !isTaken && !reflect.DeepEqual(g.Code[i], x) {
			t.Fatalf("%s becomes %s: at %d it has %+v", told(f), told(g), i, g.Code[i])
		}
	}
}

// checkNoneLeft: nothing pure is left whose register is dead, by the function's own liveness or by the output's.
func checkNoneLeft(t *testing.T, f, g api.Func) {
	t.Helper()
	for whose, table := range map[string]*live.Table{"the function's own": live.Of(f), "the output's": live.Of(g)} {
		if l := deadOf(g, table); len(l) > 0 {
			t.Fatalf("%s becomes %s: by %s liveness it has dead ones at %v", told(f), told(g), whose, l)
		}
	}
}

// checkPass holds Pass at a function against all that is promised of the output, but for what it does, and answers it.
func checkPass(t *testing.T, f api.Func) api.Func {
	t.Helper()
	g := dead.Pass(f)
	if ins.Check(f) != api.OK {
		if !reflect.DeepEqual(g, f) {
			t.Fatalf("%s isn't well formed, but becomes %s", told(f), told(g))
		}
		return g
	}
	checkShape(t, f, g)
	if e := ins.Check(g); e != api.OK {
		t.Fatalf("%s becomes %s: %v", told(f), told(g), e)
	}
	if flow.Set(f) && !flow.Set(g) {
		t.Fatalf("%s sets what it reads, but becomes %s", told(f), told(g))
	}
	checkNoneLeft(t, f, g)
	if again := dead.Pass(g); !reflect.DeepEqual(again, g) {
		t.Fatalf("%s becomes %s, and that %s", told(f), told(g), told(again))
	}
	return g
}

// checkAll is checkPass, and holds the output against the reference, and what the function does against what the output does, and what becomes of that.
func checkAll(t *testing.T, f api.Func) api.Func {
	t.Helper()
	g := checkPass(t, f)
	if ins.Check(f) != api.OK {
		return g
	}
	if want, _ := reference(f); !reflect.DeepEqual(g, want) {
		t.Fatalf("%s becomes %s, want %s", told(f), told(g), told(want))
	}
	checkSame(t, f, g)
	trimmed := flow.Trim(g)
	checkSameTrimmed(t, f, trimmed)
	// What isn't there any more makes nothing dead that wasn't.
	if again := dead.Pass(trimmed); !reflect.DeepEqual(again, trimmed) {
		t.Fatalf("%s becomes %s, and trimmed %s, and that %s", told(f), told(g), told(trimmed), told(again))
	}
	return g
}
