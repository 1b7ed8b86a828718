package flow_test

import (
	"math"
	"math/rand"
	"slices"
	"strings"
	"testing"

	"reglet/api"
	"reglet/flow"
	"reglet/ins"
)

// counted are the numbers from 0 on.
func counted(n int) []int {
	l := make([]int, n)
	for i := range l {
		l[i] = i
	}
	return l
}

// noPlaces are numbers that are no places of a function.
func noPlaces(f api.Func) []int {
	return []int{math.MinInt, math.MinInt + 1, -1 << 32, -2, -1, len(f.Code), len(f.Code) + 1, 1 << 32, math.MaxInt - 1, math.MaxInt}
}

// pick is one of a list.
func pick[T any](r *rand.Rand, list ...T) T { return list[r.Intn(len(list))] }

// kindsOf says of each Op of which kinds its Dst, A, B and C are in random functions: I, J, R, or - where there is none.
var kindsOf = map[int]string{
	1: "J", 2: "R", 3: "R", 4: "II", 5: "III", 6: "II", 7: "-J", 8: "-R", 9: "-RI", 10: "-I", 11: "-RR", 12: "-R", 13: "JRI", 14: "-RIJ", 15: "IR", 16: "RR", 17: "-RJ",
	18: "I", 19: "-I", 20: "R", 21: "RI", 22: "IR", 23: "I", 24: "-", 25: "R", 26: "-", 27: "", 28: "-II", 29: "-RR", 30: "-", 31: "-R", 32: "R", 33: "",
}

// Which Ops stand often in random functions: those that places hang on.
var (
	oftenOps  = []int{33, 33, 33, 28, 28, 29, 8, 20, 23, 26}
	endingOps = []int{27, 27, 30, 31}
)

// randomFunc is a well formed function, of up to so many instructions.
func randomFunc(r *rand.Rand, most int) api.Func {
	f := api.Func{Regs: []int{1, 2, 3}}
	for range r.Intn(5) {
		f.Regs = append(f.Regs, 1+r.Intn(3))
	}
	f.Params = r.Perm(len(f.Regs))[:r.Intn(len(f.Regs)+1)]
	f.Code = make([]api.Ins, 1+r.Intn(most))
	catches := randomCatches(r, len(f.Code))
	for i := range f.Code {
		op := pick(r, pick(r, oftenOps...), 1+r.Intn(31), pick(r, endingOps...))
		switch {
		case slices.Contains(catches, i):
			op = 32
		case slices.Contains(catches, i+1), i == len(f.Code)-1:
			op = pick(r, endingOps...)
		}
		f.Code[i] = randomIns(r, f, op)
		for slices.Contains(catches, f.Code[i].To) {
			f.Code[i].To = r.Intn(len(f.Code))
		}
	}
	if len(catches) > 0 {
		for range r.Intn(5) {
			from := r.Intn(len(f.Code))
			f.Rows = append(f.Rows, api.Row{From: from, To: from + 1 + r.Intn(len(f.Code)-from), At: pick(r, catches...), Class: pick(r, "", "a", "b")})
		}
	}
	return f
}

// randomCatches are places where a thing may be caught: neither the beginning nor the end, and no two neighbours.
func randomCatches(r *rand.Rand, n int) []int {
	var l []int
	for i := 1; i < n-1; i++ {
		if r.Intn(4) == 0 && !slices.Contains(l, i-1) {
			l = append(l, i)
		}
	}
	return l
}

// randomIns is an instruction of an Op that may stand in the function, but for its To.
func randomIns(r *rand.Rand, f api.Func, op int) api.Ins {
	x := api.Ins{Op: op, Dst: -1, A: -1, B: -1, To: r.Intn(len(f.Code)), Num: int64(r.Intn(2)), Ref: "I"}
	for i, letter := range kindsOf[op] {
		if letter != '-' {
			*[]*int{&x.Dst, &x.A, &x.B, &x.C}[i] = randomRegister(r, f, 1+strings.IndexRune("IJR", letter))
		}
	}
	switch op {
	case 5:
		x.Num = pick(r, int64(96), 100)
	case 6:
		x.Num = 116
	case 24, 25:
		x.Args = []int{randomRegister(r, f, 3), r.Intn(len(f.Regs))}
	case 23, 26:
		x.Args = r.Perm(len(f.Regs))[:r.Intn(3)]
	}
	return x
}

func randomRegister(r *rand.Rand, f api.Func, kind int) int {
	for {
		if i := r.Intn(len(f.Regs)); f.Regs[i] == kind {
			return i
		}
	}
}

func TestReferenceAtRandomFunctions(t *testing.T) {
	r := rand.New(rand.NewSource(1))
	seen := map[string]int{}
	for range 6000 {
		f := randomFunc(r, 14)
		if e := ins.Check(f); e != api.OK {
			t.Fatalf("%+v: %v", f, e)
		}
		checkReference(t, f)
		g := flow.Trim(f)
		for what, is := range map[string]bool{
			"set": flow.Set(f), "not set": !flow.Set(f), "shorter": len(g.Code) < len(f.Code) && len(g.Code) > 1, "as long": len(g.Code) == len(f.Code),
			"rows left": len(g.Rows) > 0, "rows gone": len(g.Rows) < len(f.Rows), "unreached": slices.Contains(flow.Reach(f), false),
		} {
			if is {
				seen[what]++
			}
		}
		for _, x := range g.Code {
			seen["left"+string(rune(x.Op))]++
		}
	}
	for op := range 32 {
		seen["left"+string(rune(op+1))]++
	}
	for what, n := range seen {
		if n < 60 {
			t.Errorf("only %d times %q", n, what)
		}
	}
	if len(seen) != 7+32 {
		t.Errorf("%v", seen)
	}
}

// TestReferenceAtSetFunctions: most random functions read something that isn't set; here most registers are Params.
func TestReferenceAtSetFunctions(t *testing.T) {
	r := rand.New(rand.NewSource(2))
	set := 0
	for range 4000 {
		f := randomFunc(r, 12)
		f.Params = r.Perm(len(f.Regs))[:len(f.Regs)-r.Intn(3)]
		checkReference(t, f)
		if flow.Set(f) {
			set++
		}
	}
	if set < 1500 || set > 3500 {
		t.Errorf("%d of 4000 functions set what they read", set)
	}
}

// changedFunc is a function with one number changed.
func changedFunc(r *rand.Rand, f api.Func) api.Func {
	g := ins.Copy(f)
	x := &g.Code[r.Intn(len(g.Code))]
	spots := []*int{&x.Op, &x.Op, &x.To, &x.To, &x.Dst, &x.A, &x.B, &g.Ret}
	if len(g.Rows) > 0 {
		row := &g.Rows[r.Intn(len(g.Rows))]
		spots = append(spots, &row.From, &row.To, &row.At, &row.From, &row.To, &row.At)
	}
	*pick(r, spots...) = pick(r, r.Intn(len(g.Code)+2), r.Intn(36), -1, -2, math.MinInt, math.MaxInt, 1<<32, 27, 28, 30, 31)
	return g
}

func TestReferenceAtChangedFunctions(t *testing.T) {
	r := rand.New(rand.NewSource(3))
	refused := 0
	for range 6000 {
		f := randomFunc(r, 9)
		for range 1 + r.Intn(3) {
			f = changedFunc(r, f)
			checkReference(t, f)
			if ins.Check(f) != api.OK {
				refused++
			}
		}
	}
	if refused < 3000 {
		t.Errorf("only %d functions aren't well formed", refused)
	}
}

// TestReferenceAtLooseFunctions: of numbers that hang together by nothing.
func TestReferenceAtLooseFunctions(t *testing.T) {
	r := rand.New(rand.NewSource(4))
	for range 8000 {
		var f api.Func
		n := r.Intn(6)
		number := func() int { return pick(r, r.Intn(n+3)-1, r.Intn(n+1), math.MinInt, math.MaxInt) }
		for range n {
			f.Code = append(f.Code, api.Ins{Op: r.Intn(36), Dst: number(), A: number(), B: number(), To: number()})
		}
		for range r.Intn(4) {
			f.Rows = append(f.Rows, api.Row{From: number(), To: number(), At: number(), Class: pick(r, "", "a")})
		}
		checkReference(t, f)
	}
}

// FuzzFlow looks for functions at which a call and the reference differ: its numbers say how they are made and changed.
func FuzzFlow(f *testing.F) {
	f.Add(int64(1), 0)
	f.Add(int64(2), 3)
	f.Fuzz(func(t *testing.T, seed int64, changes int) {
		r := rand.New(rand.NewSource(seed))
		g := randomFunc(r, 20)
		for range min(max(changes, 0), 6) {
			g = changedFunc(r, g)
		}
		checkReference(t, g)
	})
}
