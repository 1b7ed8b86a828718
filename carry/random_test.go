package carry_test

import (
	"math"
	"math/rand"
	"slices"
	"testing"

	"reglet/api"
	"reglet/flow"
	"reglet/ins"
)

// pick is one of a list.
func pick[T any](r *rand.Rand, list ...T) T { return list[r.Intn(len(list))] }

// Which Ops stand often in random functions: copies above all, those that write and throw, and those that ways hang on.
var (
	oftenOps  = []int{4, 4, 4, 4, 4, 4, 4, 5, 20, 23, 23, 26, 28, 29}
	endingOps = []int{27, 27, 30, 31}
)

// randomFunc is a well formed function of so many instructions, with a few registers and so many more.
func randomFunc(r *rand.Rand, length, registers int) api.Func {
	f := api.Func{Regs: []int{1, 1, 2, 3, 3}, Ret: r.Intn(4)}
	for range registers {
		f.Regs = append(f.Regs, 1+r.Intn(3))
	}
	f.Params = r.Perm(len(f.Regs))[:r.Intn(min(len(f.Regs), 21)+1)]
	f.Code = make([]api.Ins, length)
	catches := randomCatches(r, length)
	for i := range f.Code {
		op := pick(r, oftenOps...)
		if r.Intn(3) == 0 {
			op = 1 + r.Intn(31)
		}
		switch {
		case slices.Contains(catches, i):
			op = 32
		case slices.Contains(catches, i+1), i == length-1:
			op = pick(r, endingOps...)
		case r.Intn(30) == 0:
			op = 33
		}
		f.Code[i] = randomIns(r, f, op)
		for slices.Contains(catches, f.Code[i].To) {
			f.Code[i].To = r.Intn(length)
		}
	}
	if len(catches) > 0 {
		for range 1 + r.Intn(4) {
			from := r.Intn(length)
			f.Rows = append(f.Rows, api.Row{From: from, To: from + 1 + r.Intn(length-from), At: pick(r, catches...), Class: pick(r, "", "a", "b")})
		}
	}
	return f
}

// randomCatches are places where a thing may be caught: neither the beginning nor the end, and no two neighbours.
func randomCatches(r *rand.Rand, length int) []int {
	var l []int
	for i := 1; i < length-1; i++ {
		if r.Intn(5) == 0 && !slices.Contains(l, i-1) {
			l = append(l, i)
		}
	}
	return l
}

// randomIns is an instruction of an Op that may stand in the function, but for its To: it is tried till it fits.
func randomIns(r *rand.Rand, f api.Func, op int) api.Ins {
	register := func() int { return r.Intn(len(f.Regs)+1) - 1 }
	for {
		x := api.Ins{Op: op, Dst: register(), A: register(), B: register(), C: register()}
		x.Num, x.Ref = pick(r, int64(0), 1, 96, 97, 116, 117, 136, 148), pick(r, "I", "[J", "La;")
		for range pick(r, 0, 1, 2, 3, 21) {
			x.Args = append(x.Args, r.Intn(len(f.Regs)))
		}
		trial := api.Func{Regs: f.Regs, Ret: f.Ret, Code: []api.Ins{{Op: 27}, x, {Op: 27}}}
		if ins.Check(trial) == api.OK {
			x.To = r.Intn(len(f.Code))
			return x
		}
	}
}

func TestRandomFunctions(t *testing.T) {
	r := rand.New(rand.NewSource(1))
	seen := map[string]int{}
	for range 6000 {
		f := randomFunc(r, 1+r.Intn(28), r.Intn(3))
		if e := ins.Check(f); e != api.OK {
			t.Fatalf("%s: %v", told(f), e)
		}
		count(seen, f, checkAll(t, f))
	}
	for op := range 33 {
		seen["op"+string(rune(op+1))]++
	}
	for what, n := range seen {
		if n < 50 {
			t.Errorf("only %d times %q", n, what)
		}
	}
	if len(seen) != 33+8 {
		t.Errorf("%v", seen)
	}
}

// count counts what is to be seen in a function, and in what became of it.
func count(seen map[string]int, f, g api.Func) {
	w, heads, reach := referenceOf(f), flow.Heads(f), flow.Reach(f)
	head, isCaught := 0, false
	moved := map[int]bool{}
	for i, x := range f.Code {
		seen["op"+string(rune(x.Op))]++
		if slices.Contains(heads, i) {
			head, isCaught, moved = i, len(w.threw[i]) > 0, map[int]bool{}
		}
		uses, now := ins.Uses(x), ins.Uses(g.Code[i])
		for k, r := range uses {
			for what, is := range map[string]bool{
				"read at its source":                  now[k] != r && moved[r],
				"read at its source in a later block": now[k] != r && !moved[r],
				"where it is caught":                  now[k] != r && !moved[r] && isCaught,
				"where ways meet":                     now[k] != r && !moved[r] && len(w.prior[head]) > 1,
				"and written there":                   now[k] != r && ins.Def(x) == r,
				"where its source is written":         now[k] != r && ins.Def(x) == now[k],
				"a copy of itself":                    now[k] != r && x.Op == 4 && x.Dst == now[k],
				"copied, but nobody comes there":      moved[r] && !reach[i],
			} {
				if is {
					seen[what]++
				}
			}
		}
		if d := ins.Def(x); d >= 0 {
			moved[d] = x.Op == 4
		}
	}
}

// TestManyRegisters: more copies than there are bits in a word.
func TestManyRegisters(t *testing.T) {
	r := rand.New(rand.NewSource(2))
	for range 300 {
		f := randomFunc(r, 150+r.Intn(250), pick(r, 5, 20, 60, 61, 62, 130, 400))
		checkAll(t, f)
	}
}

// TestManyWays: of few registers, with many ways.
func TestManyWays(t *testing.T) {
	r := rand.New(rand.NewSource(3))
	for range 300 {
		checkAll(t, randomFunc(r, 40+r.Intn(40), 2))
	}
}

// TestSetFunctions: most random functions read something that isn't set; here most registers are Params.
func TestSetFunctions(t *testing.T) {
	r := rand.New(rand.NewSource(4))
	set := 0
	for range 2000 {
		f := randomFunc(r, 2+r.Intn(12), 2+r.Intn(5))
		f.Params = r.Perm(len(f.Regs))[:len(f.Regs)-r.Intn(3)]
		checkPass(t, f)
		if flow.Set(f) {
			set++
		}
	}
	if set < 700 || set > 1600 {
		t.Errorf("%d of 2000 functions set what they read", set)
	}
}

// changedFunc is a function with one number changed.
func changedFunc(r *rand.Rand, f api.Func) api.Func {
	g := ins.Copy(f)
	x := &g.Code[r.Intn(len(g.Code))]
	spots := []*int{&x.Op, &x.To, &x.Dst, &x.A, &x.B, &x.C, &g.Ret, &g.Regs[r.Intn(len(g.Regs))]}
	if len(x.Args) > 0 {
		spots = append(spots, &x.Args[r.Intn(len(x.Args))])
	}
	if len(g.Params) > 0 {
		spots = append(spots, &g.Params[r.Intn(len(g.Params))])
	}
	if len(g.Rows) > 0 {
		row := &g.Rows[r.Intn(len(g.Rows))]
		spots = append(spots, &row.From, &row.To, &row.At)
	}
	*pick(r, spots...) = pick(r, r.Intn(len(g.Code)+2), r.Intn(36), r.Intn(5)-1, math.MinInt, math.MaxInt, 1<<32)
	return g
}

func TestChangedFunctions(t *testing.T) {
	r := rand.New(rand.NewSource(5))
	refused := 0
	for range 3000 {
		f := changedFunc(r, randomFunc(r, 1+r.Intn(9), r.Intn(4)))
		checkAll(t, f)
		if ins.Check(f) != api.OK {
			refused++
		}
	}
	if refused < 700 || refused > 2500 {
		t.Errorf("%d of 3000 functions aren't well formed", refused)
	}
}

// FuzzCarry looks for functions at which a promise doesn't hold: its numbers say how they are made and changed.
func FuzzCarry(f *testing.F) {
	f.Add(int64(1), 5, 0)
	f.Add(int64(2), 70, 2)
	f.Fuzz(func(t *testing.T, seed int64, registers, changes int) {
		r := rand.New(rand.NewSource(seed))
		g := randomFunc(r, 1+r.Intn(30), min(max(registers, 0), 200))
		for range min(max(changes, 0), 3) {
			g = changedFunc(r, g)
		}
		checkAll(t, g)
	})
}
