package fold_test

import (
	"math"
	"math/rand"
	"slices"
	"testing"

	"reglet/api"
	"reglet/flow"
	"reglet/ins"
	"reglet/num"
)

// pick is one of a list.
func pick[T any](r *rand.Rand, list ...T) T { return list[r.Intn(len(list))] }

// Which Ops stand often in random functions: numbers and what is computed of them above all, and what says them.
var (
	oftenOps  = []int{1, 1, 1, 1, 1, 1, 4, 4, 5, 5, 5, 5, 5, 6, 6, 19, 23, 28}
	endingOps = []int{27, 27, 30, 31}
)

// A maker makes random functions.
type maker struct {
	*rand.Rand
	bins, uns []int
}

func newMaker(seed int64) maker {
	return maker{rand.New(rand.NewSource(seed)), codesOf(true), codesOf(false)}
}

// function is a well formed one of so many instructions, with a few registers and so many more.
func (r maker) function(length, registers int) api.Func {
	f := api.Func{Regs: []int{1, 1, 2, 2, 3}, Ret: r.Intn(4)}
	for range registers {
		f.Regs = append(f.Regs, 1+r.Intn(3))
	}
	f.Params = r.Perm(len(f.Regs))[:r.Intn(min(len(f.Regs), 21)+1)]
	f.Code = make([]api.Ins, length)
	catches := r.catches(length)
	for i := range f.Code {
		op := pick(r.Rand, oftenOps...)
		if r.Intn(6) == 0 {
			op = 1 + r.Intn(31)
		}
		switch {
		case slices.Contains(catches, i):
			op = 32
		case slices.Contains(catches, i+1), i == length-1:
			op = pick(r.Rand, endingOps...)
		case r.Intn(30) == 0:
			op = 33
		}
		f.Code[i] = r.instruction(f, op)
		for slices.Contains(catches, f.Code[i].To) {
			f.Code[i].To = r.Intn(length)
		}
	}
	if len(catches) > 0 {
		for range 1 + r.Intn(3) {
			from := r.Intn(length)
			f.Rows = append(f.Rows, api.Row{From: from, To: from + 1 + r.Intn(length-from), At: pick(r.Rand, catches...), Class: pick(r.Rand, "", "a", "b")})
		}
	}
	return f
}

// catches are places where a thing may be caught: neither the beginning nor the end, and no two neighbours.
func (r maker) catches(length int) []int {
	var l []int
	for i := 1; i < length-1; i++ {
		if r.Intn(12) == 0 && !slices.Contains(l, i-1) {
			l = append(l, i)
		}
	}
	return l
}

// of is a register of a kind.
func (r maker) of(f api.Func, kind int) int {
	for {
		if i := r.Intn(len(f.Regs)); f.Regs[i] == kind {
			return i
		}
	}
}

// number is one that fits a kind: a small one, an edge, or any.
func (r maker) number(kind int) int64 {
	n := pick(r.Rand, int64(r.Intn(5)-1), pick(r.Rand, edgesOf(kind)...), int64(r.Uint64())>>r.Intn(64))
	if kind == 1 {
		return int64(int32(n))
	}
	return n
}

// instruction is one of an Op that may stand in the function. One that isn't made of its kinds is tried till it fits.
func (r maker) instruction(f api.Func, op int) api.Ins {
	to := r.Intn(len(f.Code))
	switch op {
	case 1:
		kind := pick(r.Rand, 1, 2)
		return api.Ins{Op: op, Dst: r.of(f, kind), Num: r.number(kind)}
	case 5:
		code := pick(r.Rand, r.bins...)
		first, second, made := num.Kinds(code)
		return api.Ins{Op: op, Num: int64(code), A: r.of(f, first), B: r.of(f, second), Dst: r.of(f, made)}
	case 6:
		code := pick(r.Rand, r.uns...)
		first, _, made := num.Kinds(code)
		return api.Ins{Op: op, Num: int64(code), A: r.of(f, first), Dst: r.of(f, made)}
	case 28:
		return api.Ins{Op: op, Num: r.Int63n(6), A: r.of(f, 1), B: r.of(f, 1), To: to}
	}
	register := func() int { return r.Intn(len(f.Regs)+1) - 1 }
	for {
		x := api.Ins{Op: op, Dst: register(), A: register(), B: register(), C: register(), To: to}
		x.Num, x.Ref = pick(r.Rand, int64(0), 1), pick(r.Rand, "I", "[J", "La;")
		for range pick(r.Rand, 0, 1, 2, 3, 21) {
			x.Args = append(x.Args, r.Intn(len(f.Regs)))
		}
		trial := api.Func{Regs: f.Regs, Ret: f.Ret, Code: []api.Ins{{Op: 27}, x, {Op: 27}}}
		trial.Code[1].To = 0
		if ins.Check(trial) == api.OK {
			return x
		}
	}
}

func TestRandomFunctions(t *testing.T) {
	r := newMaker(1)
	seen := map[string]int{}
	for range 4000 {
		f := r.function(1+r.Intn(40), r.Intn(3))
		if e := ins.Check(f); e != api.OK {
			t.Fatalf("%s: %v", told(f), e)
		}
		count(seen, f, checkAll(t, f))
	}
	for op := range 33 {
		seen["op"+string(rune(op+1))]++
	}
	for what, n := range seen {
		if n < 50 {
			t.Errorf("only %d times %q", n, what)
		}
	}
	if len(seen) != 33+11 {
		t.Errorf("%v", seen)
	}
}

// count counts what is to be seen in a function, and in what became of it.
func count(seen map[string]int, f, g api.Func) {
	own, reach := referenceOf(f, f.Code), flow.Reach(f)
	for i, x := range f.Code {
		seen["op"+string(rune(x.Op))]++
		y := g.Code[i]
		_, must := own.folded(i, x)
		isFolded := x.Op != y.Op
		reads := ins.Uses(x)
		for what, is := range map[string]bool{
			"OpBin by own numbers":      isFolded && x.Op == 5 && must,
			"OpBin by others":           isFolded && x.Op == 5 && !must,
			"OpUn":                      isFolded && x.Op == 6,
			"OpMove":                    isFolded && x.Op == 4,
			"OpIfInt to its place":      isFolded && y.Op == 27,
			"OpIfInt to nowhere":        isFolded && y.Op == 33,
			"OpBin as it was":           !isFolded && x.Op == 5,
			"OpIfInt as it was":         !isFolded && x.Op == 28,
			"folded over what it reads": isFolded && slices.Contains(reads, ins.Def(x)),
			"folded, but nobody comes":  isFolded && !reach[i],
			"a check of what is known":  x.Op >= 7 && x.Op <= 10 && knowsOne(own, i, reads),
		} {
			if is {
				seen[what]++
			}
		}
	}
}

// knowsOne: is one of the registers known at a place?
func knowsOne(w reference, at int, reads []int) bool {
	return slices.ContainsFunc(reads, func(r int) bool {
		_, is := w.known(at, r)
		return is
	})
}

// TestManyRegisters: longer functions with more registers.
func TestManyRegisters(t *testing.T) {
	r := newMaker(2)
	for range 150 {
		checkAll(t, r.function(150+r.Intn(250), pick(r.Rand, 5, 20, 60, 130, 400)))
	}
}

// TestLongBlocks: no ways lead anywhere but at the end.
func TestLongBlocks(t *testing.T) {
	r := newMaker(3)
	folded := 0
	for range 400 {
		f := r.function(60+r.Intn(60), r.Intn(4))
		last := len(f.Code) - 1
		for i, x := range f.Code {
			if ins.Leads(x) || ins.Ends(x) || x.Op == 32 {
				f.Code[i] = r.instruction(f, pick(r.Rand, 1, 5, 6))
			}
		}
		f.Rows, f.Code[last] = nil, r.instruction(f, 30)
		for i, x := range checkAll(t, f).Code {
			if x.Op != f.Code[i].Op {
				folded++
			}
		}
	}
	if folded < 1000 {
		t.Errorf("only %d instructions folded", folded)
	}
}

// TestSetFunctions: most random functions read something that isn't set; here most registers are Params.
func TestSetFunctions(t *testing.T) {
	r := newMaker(4)
	set := 0
	for range 2000 {
		f := r.function(2+r.Intn(12), 2+r.Intn(5))
		f.Params = r.Perm(len(f.Regs))[:len(f.Regs)-r.Intn(3)]
		checkPass(t, f)
		if flow.Set(f) {
			set++
		}
	}
	if set < 700 || set > 1700 {
		t.Errorf("%d of 2000 functions set what they read", set)
	}
}

// changed is a function with one number changed.
func (r maker) changed(f api.Func) api.Func {
	g := ins.Copy(f)
	x := &g.Code[r.Intn(len(g.Code))]
	spots := []*int{&x.Op, &x.To, &x.Dst, &x.A, &x.B, &x.C, &g.Ret, &g.Regs[r.Intn(len(g.Regs))]}
	if len(x.Args) > 0 {
		spots = append(spots, &x.Args[r.Intn(len(x.Args))])
	}
	if len(g.Params) > 0 {
		spots = append(spots, &g.Params[r.Intn(len(g.Params))])
	}
	if len(g.Rows) > 0 {
		row := &g.Rows[r.Intn(len(g.Rows))]
		spots = append(spots, &row.From, &row.To, &row.At)
	}
	n := pick(r.Rand, r.Intn(len(g.Code)+2), r.Intn(36), r.Intn(5)-1, math.MinInt, math.MaxInt, 1<<32)
	if r.Intn(5) == 0 {
		x.Num = int64(n)
		return g
	}
	*pick(r.Rand, spots...) = n
	return g
}

func TestChangedFunctions(t *testing.T) {
	r := newMaker(5)
	refused := 0
	for range 2500 {
		f := r.changed(r.function(1+r.Intn(9), r.Intn(4)))
		checkAll(t, f)
		if ins.Check(f) != api.OK {
			refused++
		}
	}
	if refused < 600 || refused > 2000 {
		t.Errorf("%d of 2500 functions aren't well formed", refused)
	}
}

// FuzzFold looks for functions at which a promise doesn't hold: its numbers say how they are made and changed.
func FuzzFold(f *testing.F) {
	f.Add(int64(1), 5, 0)
	f.Add(int64(2), 70, 2)
	f.Fuzz(func(t *testing.T, seed int64, registers, changes int) {
		r := newMaker(seed)
		g := r.function(1+r.Intn(50), min(max(registers, 0), 200))
		for range min(max(changes, 0), 3) {
			g = r.changed(g)
		}
		checkAll(t, g)
	})
}
