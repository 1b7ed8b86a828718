package ins_test

import (
	"math"
	"math/rand"
	"slices"
	"testing"

	"reglet/api"
)

// pick is one of a list.
func pick[T any](r *rand.Rand, list ...T) T { return list[r.Intn(len(list))] }

// randomFunc is a well formed function, of up to so many instructions.
func randomFunc(r *rand.Rand, most int) api.Func {
	f := api.Func{Ret: r.Intn(4)}
	for range r.Intn(9) {
		f.Regs = append(f.Regs, 1+r.Intn(3))
	}
	f.Params = r.Perm(len(f.Regs))[:r.Intn(len(f.Regs)+1)]
	f.Code = make([]api.Ins, 1+r.Intn(most))
	catches := placeCatches(r, f)
	last := len(f.Code) - 1
	for i := range f.Code {
		f.Code[i] = randomIns(r, f, catches, i < last && !slices.Contains(catches, i+1), i)
	}
	for range r.Intn(4) {
		if len(catches) > 0 {
			from := r.Intn(len(f.Code))
			f.Rows = append(f.Rows, api.Row{From: from, To: from + 1 + r.Intn(len(f.Code)-from), At: pick(r, catches...), Class: pick(r, "", "a", "Throwable")})
		}
	}
	return f
}

// placeCatches are the places of a function where instructions will catch: two neighbours can't, nor the beginning and the end.
func placeCatches(r *rand.Rand, f api.Func) []int {
	var l []int
	if !slices.Contains(f.Regs, 3) {
		return nil
	}
	for i := 1; i < len(f.Code)-1; i++ {
		if r.Intn(4) == 0 && !slices.Contains(l, i-1) {
			l = append(l, i)
		}
	}
	return l
}

// randomIns is an instruction that may stand at a place of the function; goesOn: it may be one that doesn't end.
func randomIns(r *rand.Rand, f api.Func, catches []int, goesOn bool, at int) api.Ins {
	for {
		op := 1 + r.Intn(33)
		isCatch, ends := op == 32, said(chapterEnds, op)
		if slices.Contains(catches, at) != isCatch || !goesOn && !ends {
			continue
		}
		// Some Ops must be tried often till all fits, and some can't fit in this function.
		for range 100 {
			x := looseIns(r, f, op)
			if len(faultsOf(f, x)) == 0 && !(said(chapterLeads, op) && slices.Contains(catches, x.To)) {
				return x
			}
		}
	}
}

// looseIns has in each field some number that is often right.
func looseIns(r *rand.Rand, f api.Func, op int) api.Ins {
	register := func() int { return r.Intn(len(f.Regs)+2) - 1 }
	x := api.Ins{Op: op, Dst: register(), A: register(), B: register(), C: register(), To: r.Intn(len(f.Code))}
	x.Num = pick(r, 0, 1, 3, 5, -1, 1<<31, int64(96+r.Intn(53)), int64(96+r.Intn(53)), int64(116+r.Intn(2)), math.MaxInt64, math.MinInt64)
	x.Ref = pick(r, "I", "[J", "La;", "a", "")
	for range pick(r, 0, 1, 2, 3, 21, 22) {
		x.Args = append(x.Args, r.Intn(len(f.Regs)+1))
	}
	return x
}

func TestReferenceAtRandomFunctions(t *testing.T) {
	r := rand.New(rand.NewSource(1))
	seen := map[int]int{}
	for range 5000 {
		f := randomFunc(r, 12)
		if l := checkReference(t, f); len(l) > 0 {
			t.Fatalf("%+v: %q", f, l)
		}
		for _, x := range f.Code {
			seen[x.Op]++
		}
	}
	for _, op := range ops() {
		if seen[op] < 40 {
			t.Errorf("only %d times %d", seen[op], op)
		}
	}
}

// anyNumber is one about those that a function's fields may have, now and then far off.
func anyNumber(r *rand.Rand, f api.Func) int {
	return pick(r, -2, -1, 0, 1, 2, 3, 4, r.Intn(len(f.Regs)+2), r.Intn(len(f.Code)+2), r.Intn(150), r.Intn(36), math.MinInt, math.MaxInt, 1<<32)
}

// changedFunc is a function with one thing changed.
func changedFunc(r *rand.Rand, f api.Func) api.Func {
	g := api.Func{Regs: slices.Clone(f.Regs), Params: slices.Clone(f.Params), Ret: f.Ret, Code: slices.Clone(f.Code), Rows: slices.Clone(f.Rows)}
	if len(g.Code) == 0 {
		return g
	}
	at, n := r.Intn(len(g.Code)), anyNumber(r, f)
	x := &g.Code[at]
	spots := []*int{&g.Ret, &x.Op, &x.Op, &x.Dst, &x.A, &x.B, &x.C, &x.To}
	x.Args = slices.Clone(x.Args)
	for _, l := range [][]int{g.Regs, g.Params, x.Args} {
		if len(l) > 0 {
			spots = append(spots, &l[r.Intn(len(l))])
		}
	}
	if len(g.Rows) > 0 {
		row := &g.Rows[r.Intn(len(g.Rows))]
		spots = append(spots, &row.From, &row.To, &row.At)
	}
	switch r.Intn(12) {
	case 0:
		x.Num = pick(r, int64(n), 1<<31, -1<<31, -1<<31-1)
	case 1:
		x.Ref = pick(r, "I", "a", "", "[[La;")
	case 2:
		g.Code = slices.Delete(g.Code, at, at+1)
	case 3:
		g.Code = slices.Insert(g.Code, at, g.Code[r.Intn(len(g.Code))])
	case 4:
		other := r.Intn(len(g.Code))
		g.Code[at], g.Code[other] = g.Code[other], g.Code[at]
	case 5:
		g.Regs = g.Regs[:r.Intn(len(g.Regs)+1)]
	default:
		*pick(r, spots...) = n
	}
	return g
}

// TestReferenceAtChangedFunctions: each fault comes by itself many times, where one change can make it.
func TestReferenceAtChangedFunctions(t *testing.T) {
	r := rand.New(rand.NewSource(2))
	alone := map[string]int{}
	for range 15000 {
		first := randomFunc(r, 8)
		for range 4 {
			f := first
			for range 1 + r.Intn(2) {
				f = changedFunc(r, f)
			}
			switch l := checkReference(t, f); len(l) {
			case 0:
				alone[""]++
			case 1:
				alone[l[0]]++
			}
		}
	}
	for _, fault := range []string{
		"", "length", "kind", "param", "param twice", "ret", "led to a catch", "end", "catch behind", "row from", "row empty", "row to", "row at", " Op",
		"OpConst Dst", "OpConst Num", "OpMove A", "OpLoad B", "OpCastCheck Ref", "OpGetField Num", "OpCall Args", "OpCallVirtual Args",
		"OpCallIface Args", "OpCallNative Dst", "OpGoto To", "OpIfInt Num", "OpIfInt B", "OpIfRef B", "OpIfRef To", "OpReturn A", "OpThrow A", "OpCatch Dst",
	} {
		if alone[fault] < 10 {
			t.Errorf("only %d changed functions have just the fault %q", alone[fault], fault)
		}
	}
}

// TestReferenceAtLooseFunctions: of instructions that hang together by nothing.
func TestReferenceAtLooseFunctions(t *testing.T) {
	r := rand.New(rand.NewSource(3))
	for range 20000 {
		f := api.Func{Regs: make([]int, r.Intn(5)), Code: make([]api.Ins, 1+r.Intn(3))}
		for i := range f.Regs {
			f.Regs[i] = 1 + r.Intn(3)
		}
		for i := range f.Code {
			f.Code[i] = looseIns(r, f, 1+r.Intn(33))
			*pick(r, &f.Code[i].Op, &f.Code[i].A, &f.Code[i].B) = anyNumber(r, f)
		}
		checkReference(t, f)
	}
}

// FuzzCheck looks for functions at which Check and the reference differ: its numbers say how they are made and changed.
func FuzzCheck(f *testing.F) {
	f.Add(int64(1), 0)
	f.Add(int64(2), 3)
	f.Fuzz(func(t *testing.T, seed int64, changes int) {
		r := rand.New(rand.NewSource(seed))
		g := randomFunc(r, 20)
		for range min(max(changes, 0), 6) {
			g = changedFunc(r, g)
		}
		checkReference(t, g)
	})
}
