package flow_test

import (
	"slices"
	"testing"

	"reglet/api"
	"reglet/flow"
	"reglet/ins"
)

// The reference finds who is reached by pairs until none is new, asks of each place whether a block begins there, walks all ways with the registers that are written on them, and trims by taking one instruction away after the other. What layer 10 answers of instructions and functions it takes as it says.

// isAbout: is the row about the place?
func isAbout(r api.Row, i int) bool { return i >= r.From && i < r.To }

// once are the numbers, without those that stand ahead already.
func once(l []int) []int {
	var first []int
	for i, n := range l {
		if slices.Index(l, n) == i {
			first = append(first, n)
		}
	}
	return first
}

func wantNext(f api.Func, i int) []int {
	var l []int
	if i >= 0 && i < len(f.Code) {
		if !ins.Ends(f.Code[i]) {
			l = append(l, i+1)
		}
		if ins.Leads(f.Code[i]) {
			l = append(l, f.Code[i].To)
		}
	}
	return once(l)
}

func wantCaught(f api.Func, i int) []int {
	if i < 0 || i >= len(f.Code) || !ins.Throws(f.Code[i]) {
		return nil
	}
	about := slices.DeleteFunc(slices.Clone(f.Rows), func(r api.Row) bool { return !isAbout(r, i) })
	if last := slices.IndexFunc(about, func(r api.Row) bool { return r.Class == "" }); last >= 0 {
		about = about[:last+1]
	}
	var l []int
	for _, r := range about {
		l = append(l, r.At)
	}
	return once(l)
}

// follows: does place j follow place i, be it by what is thrown?
func follows(f api.Func, i, j int) bool {
	return slices.Contains(wantNext(f, i), j) || slices.Contains(wantCaught(f, i), j)
}

func wantReach(f api.Func) []bool {
	reach := make([]bool, len(f.Code))
	for isNew := len(reach) > 0; isNew; {
		isNew = !reach[0]
		reach[0] = true
		for i := range reach {
			for j := range reach {
				if reach[i] && !reach[j] && follows(f, i, j) {
					reach[j], isNew = true, true
				}
			}
		}
	}
	return reach
}

// isHead: does a block begin there?
func isHead(f api.Func, i int) bool {
	return i == 0 ||
		slices.ContainsFunc(f.Code, func(x api.Ins) bool { return ins.Leads(x) && x.To == i }) ||
		ins.Leads(f.Code[i-1]) || ins.Ends(f.Code[i-1]) ||
		slices.ContainsFunc(f.Rows, func(r api.Row) bool { return r.From == i || r.To == i || r.At == i })
}

func wantHeads(f api.Func) []int {
	var l []int
	for i := range f.Code {
		if isHead(f, i) {
			l = append(l, i)
		}
	}
	return l
}

// A point is a place on a way, with the registers that are written on the way to it, a bit each.
type point struct{ at, written int }

// wantSet walks all ways of a function of few registers.
func wantSet(f api.Func) bool {
	if ins.Check(f) != api.OK {
		return false
	}
	first := point{}
	for _, r := range f.Params {
		first.written |= 1 << r
	}
	been := map[point]bool{first: true}
	for todo := []point{first}; len(todo) > 0; todo = todo[1:] {
		p := todo[0]
		x := f.Code[p.at]
		if slices.ContainsFunc(ins.Uses(x), func(r int) bool { return p.written>>r&1 == 0 }) {
			return false
		}
		after := p.written
		if r := ins.Def(x); r >= 0 {
			after |= 1 << r
		}
		var behind []point
		for _, at := range wantNext(f, p.at) {
			behind = append(behind, point{at, after})
		}
		for _, at := range wantCaught(f, p.at) {
			behind = append(behind, point{at, p.written})
		}
		for _, q := range behind {
			if !been[q] {
				been[q] = true
				todo = append(todo, q)
			}
		}
	}
	return true
}

// without is a function without the instruction of a place: what spoke of a place behind it speaks of one less.
func without(f api.Func, at int) api.Func {
	g := ins.Copy(f)
	g.Code = slices.Delete(g.Code, at, at+1)
	less := func(i *int) {
		if *i > at {
			*i--
		}
	}
	for i := range g.Code {
		less(&g.Code[i].To)
	}
	for i := range g.Rows {
		less(&g.Rows[i].From)
		less(&g.Rows[i].To)
		less(&g.Rows[i].At)
	}
	return g
}

func wantTrim(f api.Func) api.Func {
	if ins.Check(f) != api.OK {
		return f
	}
	reach := wantReach(f)
	g := ins.Copy(f)
	g.Rows = slices.DeleteFunc(g.Rows, func(r api.Row) bool { return !reach[r.At] })
	for i := len(f.Code) - 1; i >= 0; i-- {
		if !reach[i] || f.Code[i].Op == 33 {
			g = without(g, i)
		}
	}
	g.Rows = slices.DeleteFunc(g.Rows, func(r api.Row) bool { return r.From == r.To })
	for i, x := range g.Code {
		if !ins.Leads(x) {
			g.Code[i].To = 0
		}
	}
	return g
}

// same: are they the same instruction? An empty list is none.
func same(x, y api.Ins) bool {
	return slices.Equal(x.Args, y.Args) && x.Op == y.Op && x.Dst == y.Dst && x.A == y.A && x.B == y.B && x.C == y.C && x.Num == y.Num && x.To == y.To && x.Ref == y.Ref
}

// sameFunc: are they the same function?
func sameFunc(f, g api.Func) bool {
	return slices.Equal(f.Regs, g.Regs) && slices.Equal(f.Params, g.Params) && f.Ret == g.Ret && slices.EqualFunc(f.Code, g.Code, same) && slices.Equal(f.Rows, g.Rows)
}

// checkPlaces holds what is asked of places against the reference, at all places and at some that are none.
func checkPlaces(t *testing.T, f api.Func) {
	t.Helper()
	for _, i := range slices.Concat(noPlaces(f), counted(len(f.Code))) {
		if got, want := flow.Next(f, i), wantNext(f, i); !slices.Equal(got, want) {
			t.Fatalf("Next(%s, %d) = %v, want %v", told(f), i, got, want)
		}
		if got, want := flow.Caught(f, i), wantCaught(f, i); !slices.Equal(got, want) {
			t.Fatalf("Caught(%s, %d) = %v, want %v", told(f), i, got, want)
		}
	}
	if got, want := flow.Heads(f), wantHeads(f); !slices.Equal(got, want) {
		t.Fatalf("Heads(%s) = %v, want %v", told(f), got, want)
	}
}

// checkReference holds all calls at a function of few registers against the reference.
func checkReference(t *testing.T, f api.Func) {
	t.Helper()
	checkPlaces(t, f)
	if got, want := flow.Reach(f), wantReach(f); !slices.Equal(got, want) {
		t.Fatalf("Reach(%s) = %v, want %v", told(f), got, want)
	}
	if got, want := flow.Set(f), wantSet(f); got != want {
		t.Fatalf("Set(%s) = %v, want %v", told(f), got, want)
	}
	if got, want := flow.Trim(f), wantTrim(f); !sameFunc(got, want) {
		t.Fatalf("Trim(%s) = %s, want %s", told(f), told(got), told(want))
	}
	if ins.Check(f) == api.OK {
		checkTrimmed(t, f)
	}
}

// checkTrimmed: a well formed function trimmed has what the chapter promises of it.
func checkTrimmed(t *testing.T, f api.Func) {
	t.Helper()
	g := flow.Trim(f)
	if e := ins.Check(g); e != api.OK {
		t.Fatalf("Trim(%s) = %s, which isn't well formed: %v", told(f), told(g), e)
	}
	if again := flow.Trim(g); !sameFunc(again, g) {
		t.Fatalf("%s trimmed is %s, and again %s", told(f), told(g), told(again))
	}
	if slices.ContainsFunc(g.Code, func(x api.Ins) bool { return x.Op == 33 }) || slices.Contains(flow.Reach(g), false) {
		t.Fatalf("Trim(%s) = %s, of which something does nothing", told(f), told(g))
	}
	if flow.Set(f) != flow.Set(g) {
		t.Fatalf("%s trimmed, %s, sets what it reads: %v", told(f), told(g), flow.Set(g))
	}
	for seed := range uint64(6) {
		if got, want := run(g, seed), run(f, seed); !slices.Equal(got, want) {
			t.Fatalf("%s does %q, but trimmed, %s, it does %q", told(f), want, told(g), got)
		}
	}
}
