package carry_test

import (
	"reflect"
	"slices"
	"testing"

	"reglet/api"
	"reglet/carry"
	"reglet/flow"
	"reglet/ins"
)

// The reference reads the chapter's words as they stand. What is a copy of what it tells by walking all ways back; what is to be read in a block, by walking on from each OpMove. What layers 10 and 11 answer of instructions and places it takes as it says.

// A reference has of each place those from which one comes to it: by themselves or by a way, and where they throw.
type reference struct {
	f            api.Func
	prior, threw [][]int
}

func referenceOf(f api.Func) reference {
	w := reference{f, make([][]int, len(f.Code)), make([][]int, len(f.Code))}
	reach := flow.Reach(f)
	for i := range f.Code {
		if !reach[i] {
			continue
		}
		for _, to := range flow.Next(f, i) {
			w.prior[to] = append(w.prior[to], i)
		}
		for _, at := range flow.Caught(f, i) {
			w.threw[at] = append(w.threw[at], i)
		}
	}
	return w
}

// isCopy: is a register ahead of a place a copy of another one, whichever way one came: made by an OpMove from that, or from a copy of that, since when neither was written?
func (w reference) isCopy(at, r, of int) bool {
	type spot struct{ at, r int }
	been := map[spot]bool{}
	for todo := []spot{{at, r}}; len(todo) > 0; {
		s := todo[0]
		todo = todo[1:]
		if been[s] {
			continue
		}
		been[s] = true
		if s.at == 0 {
			return false
		}
		for _, i := range w.threw[s.at] {
			todo = append(todo, spot{i, s.r})
		}
		for _, i := range w.prior[s.at] {
			x := w.f.Code[i]
			isMove := x.Op == 4 && x.Dst == s.r
			switch {
			case isMove && x.A == of:
			case isMove:
				todo = append(todo, spot{i, x.A})
			case ins.Def(x) == s.r || ins.Def(x) == of:
				return false
			default:
				todo = append(todo, spot{i, s.r})
			}
		}
	}
	return true
}

// checkShape: the output is the function in all but the registers that it reads.
func checkShape(t *testing.T, f, g api.Func) {
	t.Helper()
	if !slices.Equal(g.Regs, f.Regs) || !slices.Equal(g.Params, f.Params) || g.Ret != f.Ret || !slices.Equal(g.Rows, f.Rows) {
		t.Fatalf("%s becomes %s", told(f), told(g))
	}
	if len(g.Code) != len(f.Code) {
		t.Fatalf("%s becomes %s: %d instructions", told(f), told(g), len(g.Code))
	}
	for i, x := range f.Code {
		y := g.Code[i]
		if len(ins.Uses(y)) != len(ins.Uses(x)) || !sameIns(ins.Replace(y, ins.Uses(x)), x) {
			t.Fatalf("%s becomes %s: at %d it differs in more than what it reads", told(f), told(g), i)
		}
	}
}

// sameIns: are they the same? A list of no Args may be nil or not.
func sameIns(x, y api.Ins) bool {
	if !slices.Equal(x.Args, y.Args) {
		return false
	}
	x.Args, y.Args = nil, nil
	return reflect.DeepEqual(x, y)
}

// checkOnlyCopies: what it reads otherwise than the function is what that is a copy of.
func checkOnlyCopies(t *testing.T, f, g api.Func) {
	t.Helper()
	w := referenceOf(f)
	reach := flow.Reach(f)
	for i, x := range f.Code {
		now := ins.Uses(g.Code[i])
		for k, r := range ins.Uses(x) {
			if now[k] == r {
				continue
			}
			if !reach[i] {
				t.Fatalf("%s becomes %s: nobody comes to %d, yet it reads %d, not %d", told(f), told(g), i, now[k], r)
			}
			if !w.isCopy(i, r, now[k]) {
				t.Fatalf("%s becomes %s: at %d it reads %d, of which %d is no copy", told(f), told(g), i, now[k], r)
			}
		}
	}
}

// checkNoneLeft: in its block, behind an OpMove that reads another register than it writes, nothing reads that one, as long as neither is written.
func checkNoneLeft(t *testing.T, f, g api.Func) {
	t.Helper()
	reach, heads := flow.Reach(f), append(flow.Heads(f), len(f.Code))
	uses, defs := make([][]int, len(g.Code)), make([]int, len(g.Code))
	for i, x := range g.Code {
		uses[i], defs[i] = ins.Uses(x), ins.Def(x)
	}
	for i, x := range g.Code {
		if i == heads[0] {
			heads = heads[1:]
		}
		if x.Op != 4 || x.Dst == x.A || !reach[i] {
			continue
		}
		for k := i + 1; k < heads[0]; k++ {
			if slices.Contains(uses[k], x.Dst) {
				t.Fatalf("%s becomes %s: at %d it reads %d, which is a copy of %d since %d", told(f), told(g), k, x.Dst, x.A, i)
			}
			if defs[k] == x.Dst || defs[k] == x.A {
				break
			}
		}
	}
}

// checkPass holds Pass at a function against all that is promised of it, and answers what it answers.
func checkPass(t *testing.T, f api.Func) api.Func {
	t.Helper()
	g := carry.Pass(f)
	if ins.Check(f) != api.OK {
		if !reflect.DeepEqual(g, f) {
			t.Fatalf("%s isn't well formed, but becomes %s", told(f), told(g))
		}
		return g
	}
	checkShape(t, f, g)
	if e := ins.Check(g); e != api.OK {
		t.Fatalf("%s becomes %s: %v", told(f), told(g), e)
	}
	if flow.Set(f) && !flow.Set(g) {
		t.Fatalf("%s sets what it reads, but becomes %s", told(f), told(g))
	}
	checkNoneLeft(t, f, g)
	return g
}

// checkAll is checkPass, and holds the function's runs, and all that it reads, against those of the output.
func checkAll(t *testing.T, f api.Func) api.Func {
	t.Helper()
	g := checkPass(t, f)
	if ins.Check(f) == api.OK {
		checkOnlyCopies(t, f, g)
		checkSame(t, f, g)
		checkThrice(t, f)
	}
	return g
}

// checkThrice: Pass of what Pass gave, and of that again, trimmed between, does the same still, and is no longer.
func checkThrice(t *testing.T, f api.Func) {
	t.Helper()
	checkSame(t, f, checkPass(t, carry.Pass(f)))
	g := f
	for range 3 {
		last := flow.Trim(g)
		g = flow.Trim(checkPass(t, last))
		if len(g.Code) > len(last.Code) || len(g.Rows) > len(last.Rows) || len(g.Regs) != len(f.Regs) {
			t.Fatalf("%s becomes %s: longer", told(last), told(g))
		}
		checkSame(t, f, g)
	}
}
