package dead_test

import (
	"math"
	"math/rand"
	"slices"
	"testing"

	"reglet/api"
	"reglet/dead"
	"reglet/flow"
	"reglet/ins"
	"reglet/live"
)

// pick is one of a list.
func pick[T any](r *rand.Rand, list ...T) T { return list[r.Intn(len(list))] }

// Which Ops stand often in random functions: the pure ones above all, and who reads them; or ways and what throws between what is computed; or what is computed alone.
var (
	mixedOps  = []int{1, 1, 2, 3, 4, 4, 4, 4, 5, 5, 5, 6, 6, 13, 15, 16, 18, 22, 19, 23, 28}
	wayOps    = []int{1, 4, 4, 4, 4, 5, 6, 20, 23, 28, 28, 29}
	plainOps  = []int{1, 4, 4, 4, 4, 4, 5, 6}
	endingOps = []int{27, 27, 30, 31}
)

// randomFunc is a well formed function of so many instructions, with a few registers and so many more; some Ops stand often in it.
func randomFunc(r *rand.Rand, length, registers int, oftenOps []int) api.Func {
	f := api.Func{Regs: []int{1, 1, 2, 3, 3}, Ret: r.Intn(4)}
	for range registers {
		f.Regs = append(f.Regs, 1+r.Intn(3))
	}
	f.Params = r.Perm(len(f.Regs))[:r.Intn(min(len(f.Regs), 21)+1)]
	f.Code = make([]api.Ins, length)
	catches := randomCatches(r, length)
	for i := range f.Code {
		op := pick(r, oftenOps...)
		if r.Intn(8) == 0 {
			op = 1 + r.Intn(31)
		}
		switch {
		case slices.Contains(catches, i):
			op = 32
		case slices.Contains(catches, i+1), i == length-1:
			op = pick(r, endingOps...)
		case r.Intn(30) == 0:
			op = 33
		}
		f.Code[i] = randomIns(r, f, op)
		for slices.Contains(catches, f.Code[i].To) {
			f.Code[i].To = r.Intn(length)
		}
	}
	if len(catches) > 0 {
		for range 1 + r.Intn(3) {
			from := r.Intn(length)
			f.Rows = append(f.Rows, api.Row{From: from, To: from + 1 + r.Intn(length-from), At: pick(r, catches...), Class: pick(r, "", "a", "b")})
		}
	}
	return f
}

// randomCatches are places where a thing may be caught: neither the beginning nor the end, and no two neighbours.
func randomCatches(r *rand.Rand, length int) []int {
	var l []int
	for i := 1; i < length-1; i++ {
		if r.Intn(10) == 0 && !slices.Contains(l, i-1) {
			l = append(l, i)
		}
	}
	return l
}

// randomIns is an instruction of an Op that may stand in the function: it is tried till it fits.
func randomIns(r *rand.Rand, f api.Func, op int) api.Ins {
	register := func() int { return r.Intn(len(f.Regs)+1) - 1 }
	for {
		x := api.Ins{Op: op, Dst: register(), A: register(), B: register(), C: register()}
		x.Num, x.Ref = pick(r, int64(0), 1, 96, 97, 116, 117, 133, 136, 148), pick(r, "I", "[J", "La;")
		for range pick(r, 0, 1, 2, 3, 21) {
			x.Args = append(x.Args, r.Intn(len(f.Regs)))
		}
		trial := api.Func{Regs: f.Regs, Ret: f.Ret, Code: []api.Ins{{Op: 27}, x, {Op: 27}}}
		if ins.Check(trial) == api.OK {
			x.To = r.Intn(len(f.Code))
			return x
		}
	}
}

func TestRandomFunctions(t *testing.T) {
	r := rand.New(rand.NewSource(1))
	seen := map[string]int{}
	for range 4000 {
		f := randomFunc(r, 1+r.Intn(40), r.Intn(5), mixedOps)
		if e := ins.Check(f); e != api.OK {
			t.Fatalf("%s: %v", told(f), e)
		}
		count(seen, f, checkAll(t, f))
	}
	for op := range 33 {
		seen["op"+string(rune(op+1))]++
	}
	for what, n := range seen {
		if n < 50 {
			t.Errorf("only %d times %q", n, what)
		}
	}
	if len(seen) != 33+8 {
		t.Errorf("%v", seen)
	}
}

// count counts what is to be seen in a function, and in what became of it.
func count(seen map[string]int, f, g api.Func) {
	own, reach := live.Of(f), flow.Reach(f)
	_, rounds := reference(f)
	for i, x := range f.Code {
		seen["op"+string(rune(x.Op))]++
		isTaken := ins.Pure(x) && g.Code[i].Op == 33
		isDead := !own.After(i, ins.Def(x))
		readsItself := slices.Contains(ins.Uses(x), ins.Def(x))
		for what, is := range map[string]bool{
			"dead at once":                       isTaken && isDead,
			"dead because of another":            isTaken && !isDead,
			"in more than two rounds":            isTaken && rounds > 2,
			"taken away, though nobody comes":    isTaken && !reach[i],
			"taken away, and reads itself":       isTaken && readsItself,
			"stays":                              ins.Pure(x) && !isTaken,
			"stays, and reads itself":            ins.Pure(x) && !isTaken && readsItself,
			"stays, though its register is dead": !ins.Pure(x) && ins.Def(x) >= 0 && isDead,
		} {
			if is {
				seen[what]++
			}
		}
	}
}

// TestManyRegisters: longer functions with more registers.
func TestManyRegisters(t *testing.T) {
	r := rand.New(rand.NewSource(2))
	for range 150 {
		checkAll(t, randomFunc(r, 100+r.Intn(200), pick(r, 5, 20, 58, 59, 60, 122, 123, 124, 400), mixedOps))
	}
}

// TestManyRounds: where there are ways all over, and where there are few, one instruction is dead because of another, and that because of a next one.
func TestManyRounds(t *testing.T) {
	r := rand.New(rand.NewSource(3))
	for _, c := range []struct {
		ops  []int
		want int
	}{{wayOps, 5}, {plainOps, 10}} {
		most := 0
		for range 500 {
			f := randomFunc(r, 30+r.Intn(60), r.Intn(4), c.ops)
			if e := ins.Check(f); e != api.OK {
				t.Fatalf("%s: %v", told(f), e)
			}
			checkAll(t, f)
			_, rounds := reference(f)
			most = max(most, rounds)
		}
		if most < c.want {
			t.Errorf("%v: %d rounds at most", c.ops, most)
		}
	}
}

// TestSetFunctions: most random functions read something that isn't set; here most registers are Params.
func TestSetFunctions(t *testing.T) {
	r := rand.New(rand.NewSource(4))
	set := 0
	for range 2000 {
		f := randomFunc(r, 2+r.Intn(12), 2+r.Intn(5), mixedOps)
		f.Params = r.Perm(len(f.Regs))[:len(f.Regs)-r.Intn(3)]
		checkPass(t, f)
		if flow.Set(f) {
			set++
		}
	}
	if set < 700 || set > 1700 {
		t.Errorf("%d of 2000 functions set what they read", set)
	}
}

// changedFunc is a function with one number changed.
func changedFunc(r *rand.Rand, f api.Func) api.Func {
	g := ins.Copy(f)
	x := &g.Code[r.Intn(len(g.Code))]
	spots := []*int{&x.Op, &x.To, &x.Dst, &x.A, &x.B, &x.C, &g.Ret, &g.Regs[r.Intn(len(g.Regs))]}
	if len(x.Args) > 0 {
		spots = append(spots, &x.Args[r.Intn(len(x.Args))])
	}
	if len(g.Params) > 0 {
		spots = append(spots, &g.Params[r.Intn(len(g.Params))])
	}
	if len(g.Rows) > 0 {
		row := &g.Rows[r.Intn(len(g.Rows))]
		spots = append(spots, &row.From, &row.To, &row.At)
	}
	*pick(r, spots...) = pick(r, r.Intn(len(g.Code)+2), r.Intn(36), r.Intn(5)-1, math.MinInt, math.MaxInt, 1<<32)
	return g
}

func TestChangedFunctions(t *testing.T) {
	r := rand.New(rand.NewSource(5))
	refused := 0
	for range 2500 {
		f := changedFunc(r, randomFunc(r, 1+r.Intn(9), r.Intn(4), mixedOps))
		checkAll(t, f)
		if ins.Check(f) != api.OK {
			refused++
		}
	}
	if refused < 600 || refused > 2000 {
		t.Errorf("%d of 2500 functions aren't well formed", refused)
	}
}

// TestCheckFinds: what takes too much away, or too little, or anything else, is found.
func TestCheckFinds(t *testing.T) {
	r := rand.New(rand.NewSource(6))
	found := 0
	for range 600 {
		f := randomFunc(r, 5+r.Intn(20), r.Intn(4), mixedOps)
		g := dead.Pass(f)
		for i, x := range f.Code {
			if !ins.Pure(x) || g.Code[i].Op == 33 {
				continue
			}
			if _, is := differs(f, without(g, []int{i}), seeds); is {
				found++
			}
		}
	}
	if found < 300 {
		t.Errorf("only %d times a difference is seen where something is gone that is read", found)
	}
}

// FuzzDead looks for functions at which a promise doesn't hold: its numbers say how they are made and changed.
func FuzzDead(f *testing.F) {
	f.Add(int64(1), 5, 0)
	f.Add(int64(2), 70, 2)
	f.Fuzz(func(t *testing.T, seed int64, registers, changes int) {
		r := rand.New(rand.NewSource(seed))
		g := randomFunc(r, 1+r.Intn(50), min(max(registers, 0), 200), pick(r, mixedOps, wayOps, plainOps))
		for range min(max(changes, 0), 3) {
			g = changedFunc(r, g)
		}
		checkAll(t, g)
	})
}
