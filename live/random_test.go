package live_test

import (
	"math"
	"math/rand"
	"slices"
	"testing"

	"reglet/api"
	"reglet/flow"
	"reglet/ins"
	"reglet/live"
)

// pick is one of a list.
func pick[T any](r *rand.Rand, list ...T) T { return list[r.Intn(len(list))] }

// Which Ops stand often in random functions: those that write and throw, and those that ways hang on.
var (
	oftenOps  = []int{1, 4, 20, 23, 23, 26, 28, 28, 29}
	endingOps = []int{27, 27, 30, 31}
)

// randomFunc is a well formed function of so many instructions, with so many registers or a few more.
func randomFunc(r *rand.Rand, length, registers int) api.Func {
	f := api.Func{Regs: []int{1, 2, 3}, Ret: r.Intn(4)}
	for range registers {
		f.Regs = append(f.Regs, 1+r.Intn(3))
	}
	f.Params = r.Perm(len(f.Regs))[:r.Intn(min(len(f.Regs), 21)+1)]
	f.Code = make([]api.Ins, length)
	catches := randomCatches(r, length)
	for i := range f.Code {
		op := pick(r, pick(r, oftenOps...), 1+r.Intn(31), pick(r, endingOps...))
		switch {
		case slices.Contains(catches, i):
			op = 32
		case slices.Contains(catches, i+1), i == length-1:
			op = pick(r, endingOps...)
		case r.Intn(20) == 0:
			op = 33
		}
		f.Code[i] = randomIns(r, f, op)
		for slices.Contains(catches, f.Code[i].To) {
			f.Code[i].To = r.Intn(length)
		}
	}
	if len(catches) > 0 {
		for range r.Intn(5) {
			from := r.Intn(length)
			f.Rows = append(f.Rows, api.Row{From: from, To: from + 1 + r.Intn(length-from), At: pick(r, catches...), Class: pick(r, "", "a", "b")})
		}
	}
	return f
}

// randomCatches are places where a thing may be caught: neither the beginning nor the end, and no two neighbours.
func randomCatches(r *rand.Rand, length int) []int {
	var l []int
	for i := 1; i < length-1; i++ {
		if r.Intn(4) == 0 && !slices.Contains(l, i-1) {
			l = append(l, i)
		}
	}
	return l
}

// randomIns is an instruction of an Op that may stand in the function, but for its To: it is tried till it fits.
func randomIns(r *rand.Rand, f api.Func, op int) api.Ins {
	register := func() int { return r.Intn(len(f.Regs)+1) - 1 }
	for {
		x := api.Ins{Op: op, Dst: register(), A: register(), B: register(), C: register()}
		x.Num, x.Ref = pick(r, int64(0), 1, 96, 97, 116, 117, 136), pick(r, "I", "[J", "La;")
		for range pick(r, 0, 1, 2, 3, 21) {
			x.Args = append(x.Args, r.Intn(len(f.Regs)))
		}
		trial := api.Func{Regs: f.Regs, Ret: f.Ret, Code: []api.Ins{{Op: 27}, x, {Op: 27}}}
		if ins.Check(trial) == api.OK {
			x.To = r.Intn(len(f.Code))
			return x
		}
	}
}

func TestReferenceAtRandomFunctions(t *testing.T) {
	r := rand.New(rand.NewSource(1))
	seen := map[string]int{}
	for range 5000 {
		f := randomFunc(r, 1+r.Intn(14), r.Intn(6))
		if e := ins.Check(f); e != api.OK {
			t.Fatalf("%s: %v", told(f), e)
		}
		checkReference(t, f)
		checkOthersMakeNoDifference(t, f)
		count(seen, f)
	}
	for op := range 33 {
		seen["op"+string(rune(op+1))]++
	}
	for what, n := range seen {
		if n < 60 {
			t.Errorf("only %d times %q", n, what)
		}
	}
	if len(seen) != 33+7 {
		t.Errorf("%v", seen)
	}
}

// count counts what is to be seen in a function.
func count(seen map[string]int, f api.Func) {
	table, reach := live.Of(f), flow.Reach(f)
	for i, x := range f.Code {
		seen["op"+string(rune(x.Op))]++
		for r := range f.Regs {
			before, after, across, isWritten := table.Before(i, r), table.After(i, r), table.Across(f, i, r), ins.Def(x) == r
			for what, is := range map[string]bool{
				"live, where nobody comes to":            before && !reach[i],
				"written, and dead":                      isWritten && !after && !across,
				"written and read":                       isWritten && slices.Contains(ins.Uses(x), r),
				"live behind, written, and not across":   isWritten && after && !across,
				"live behind, written, and yet across":   isWritten && after && across,
				"live where it is caught, not behind it": across && !after,
				"live":                                   before && after && across,
			} {
				if is {
					seen[what]++
				}
			}
		}
	}
}

// TestReferenceAtManyRegisters: more than there are bits in a word.
func TestReferenceAtManyRegisters(t *testing.T) {
	r := rand.New(rand.NewSource(2))
	for range 120 {
		f := randomFunc(r, 1+r.Intn(30), pick(r, 59, 60, 61, 62, 63, 64, 123, 124, 125, 126, 127, 190, 250, 400))
		if e := ins.Check(f); e != api.OK {
			t.Fatalf("%s: %v", told(f), e)
		}
		checkReference(t, f)
		checkOthersMakeNoDifference(t, f)
	}
}

// TestReferenceAtLongerFunctions: of few registers, and many ways.
func TestReferenceAtLongerFunctions(t *testing.T) {
	r := rand.New(rand.NewSource(3))
	for range 300 {
		f := randomFunc(r, 60+r.Intn(60), 2)
		checkReference(t, f)
		checkOthersMakeNoDifference(t, f)
	}
}

// changedFunc is a function with one number changed.
func changedFunc(r *rand.Rand, f api.Func) api.Func {
	g := ins.Copy(f)
	x := &g.Code[r.Intn(len(g.Code))]
	spots := []*int{&x.Op, &x.To, &x.Dst, &x.A, &x.B, &x.C, &g.Ret, &g.Regs[r.Intn(len(g.Regs))]}
	if len(x.Args) > 0 {
		spots = append(spots, &x.Args[r.Intn(len(x.Args))])
	}
	if len(g.Params) > 0 {
		spots = append(spots, &g.Params[r.Intn(len(g.Params))])
	}
	if len(g.Rows) > 0 {
		row := &g.Rows[r.Intn(len(g.Rows))]
		spots = append(spots, &row.From, &row.To, &row.At)
	}
	*pick(r, spots...) = pick(r, r.Intn(len(g.Code)+2), r.Intn(36), r.Intn(5)-1, math.MinInt, math.MaxInt, 1<<32)
	return g
}

func TestReferenceAtChangedFunctions(t *testing.T) {
	r := rand.New(rand.NewSource(4))
	refused := 0
	for range 4000 {
		f := changedFunc(r, randomFunc(r, 1+r.Intn(9), r.Intn(4)))
		checkReference(t, f)
		if ins.Check(f) != api.OK {
			refused++
		}
	}
	if refused < 1000 || refused > 3500 {
		t.Errorf("%d of 4000 functions aren't well formed", refused)
	}
}

// FuzzLive looks for functions at which a call and the reference differ: its numbers say how they are made and changed.
func FuzzLive(f *testing.F) {
	f.Add(int64(1), 5, 0)
	f.Add(int64(2), 70, 2)
	f.Fuzz(func(t *testing.T, seed int64, registers, changes int) {
		r := rand.New(rand.NewSource(seed))
		g := randomFunc(r, 1+r.Intn(20), min(max(registers, 0), 200))
		for range min(max(changes, 0), 3) {
			g = changedFunc(r, g)
		}
		checkReference(t, g)
		if ins.Check(g) == api.OK {
			checkOthersMakeNoDifference(t, g)
		}
	})
}
