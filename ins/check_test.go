package ins_test

import (
	"fmt"
	"math"
	"slices"
	"strconv"
	"testing"

	"reglet/api"
	"reglet/ins"
)

func atoi(s string) int {
	n, err := strconv.Atoi(s)
	if err != nil {
		panic(err)
	}
	return n
}

// told is a function in words; of a long one the lengths.
func told(f api.Func) string {
	if len(f.Code)+len(f.Regs) > 200 {
		return fmt.Sprintf("%d instructions, %d registers, Params %v, Ret %d, Rows %v", len(f.Code), len(f.Regs), f.Params, f.Ret, f.Rows)
	}
	return fmt.Sprintf("%+v", f)
}

// Registers 0 and 1 of the functions here are ints, 2 and 3 longs, 4 and 5 references.
const registers = 6

// with is a function with an instruction at its place spot.
func with(x api.Ins) api.Func {
	f := api.Func{Regs: []int{1, 1, 2, 2, 3, 3}, Params: []int{4, 0, 2}, Rows: []api.Row{{From: 0, To: 4, At: 1}, {From: 3, To: 4, At: 1, Class: "a"}}, Code: []api.Ins{
		{Op: 27, To: 2}, {Op: 32, Dst: 4}, {Op: 33}, {Op: 33}, {Op: 30, A: -1},
	}}
	f.Code[1] = api.Ins{Op: 32, Dst: 5}
	if x.Op == 32 {
		f.Code[1] = x
	} else {
		f.Code[spot] = x
	}
	return f
}

// spot is where with puts an instruction; of OpCatch, where one may stand.
const spot = 3

// fitting is of each Op an instruction, with just what it needs.
func fitting(op int) api.Ins {
	x := map[int]api.Ins{
		1: {Dst: 1}, 2: {Dst: 4}, 3: {Dst: 4}, 4: {Dst: 2, A: 3}, 5: {Dst: 0, A: 1, B: 1, Num: 96}, 6: {Dst: 0, A: 1, Num: 116},
		7: {A: 3}, 8: {A: 4}, 9: {A: 4, B: 0}, 10: {A: 1}, 11: {A: 4, B: 5}, 12: {A: 4, Ref: "La;"},
		13: {Dst: 2, A: 4, B: 0}, 14: {A: 4, B: 0, C: 2}, 15: {Dst: 0, A: 4}, 16: {Dst: 2, A: 4}, 17: {A: 4, B: 2}, 18: {Dst: 2}, 19: {A: 2},
		20: {Dst: 4}, 21: {Dst: 4, A: 0, Ref: "I"}, 22: {Dst: 0, A: 4, Ref: "[J"},
		23: {Dst: -1, Args: []int{2}}, 24: {Dst: -1, Args: []int{4, 2}}, 25: {Dst: -1, Args: []int{5, 0}}, 26: {Dst: -1, Args: []int{0}},
		27: {To: 4}, 28: {A: 0, B: 1, To: 4}, 29: {A: 4, B: 5, To: 4}, 30: {A: -1}, 31: {A: 5}, 32: {Dst: 4}, 33: {},
	}[op]
	x.Op = op
	return x
}

// checkTaken: the function is well formed.
func checkTaken(t *testing.T, f api.Func) {
	t.Helper()
	checkFunc(t, f, nil)
	if l := faults(f); len(l) > 0 {
		t.Fatalf("the reference has faults of %s: %q", told(f), l)
	}
}

// checkRefused: it isn't, for just that fault.
func checkRefused(t *testing.T, f api.Func, fault string) {
	t.Helper()
	checkFunc(t, f, []string{fault})
	if l := faults(f); !slices.Equal(l, []string{fault}) {
		t.Fatalf("the reference has other faults than %q of %s: %q", fault, told(f), l)
	}
}

func TestEachOpIsTaken(t *testing.T) {
	for _, op := range ops() {
		checkTaken(t, with(fitting(op)))
	}
	// Nothing is needed beside.
	checkTaken(t, api.Func{Code: []api.Ins{{Op: 30, A: -1}}})
	checkTaken(t, api.Func{Code: []api.Ins{{Op: 27}}})
	checkTaken(t, api.Func{Regs: []int{3}, Code: []api.Ins{{Op: 31}}})
}

func TestNoOpsAreRefused(t *testing.T) {
	for _, op := range []int{0, -1, 34, 35, 255, 256 + 1, 1 << 32, 1<<32 + 33, math.MinInt, math.MinInt + 1, math.MaxInt} {
		f := with(fitting(33))
		f.Code[spot].Op = op
		checkRefused(t, f, " Op")
	}
}

// TestEachField: every number in each field of each Op, against the reference.
func TestEachField(t *testing.T) {
	numbers := []int{math.MinInt, math.MinInt + 1, math.MinInt32, -3, -2, -1, 0, 1, 2, 3, 4, 5, 6, 7, 95, 96, 97, 116, 121, 133, 148, math.MaxInt32, math.MaxInt - 1, math.MaxInt}
	taken, refused := 0, 0
	for _, op := range ops() {
		// Each kind that may be returned.
		for ret := range 4 {
			for _, n := range numbers {
				for _, set := range []func(x *api.Ins){
					func(x *api.Ins) { x.Dst = n }, func(x *api.Ins) { x.A = n }, func(x *api.Ins) { x.B = n }, func(x *api.Ins) { x.C = n },
					func(x *api.Ins) { x.Num = int64(n) }, func(x *api.Ins) { x.To = n }, func(x *api.Ins) { x.Args = []int{n} }, func(x *api.Ins) { x.Args = []int{4, n, 2} },
				} {
					x := fitting(op)
					set(&x)
					f := with(x)
					// What else gives back must fit.
					f.Ret = ret
					f.Code[4].A = []int{-1, 0, 2, 4}[ret]
					if len(checkReference(t, f)) == 0 {
						taken++
					} else {
						refused++
					}
				}
			}
		}
	}
	if taken < 5000 || refused < 5000 {
		t.Errorf("%d taken, %d refused", taken, refused)
	}
}

// TestRegistersOfEachOp: all that registers can be, those that a field needs told by hand.
func TestRegistersOfEachOp(t *testing.T) {
	kinds := map[string][]int{"I": {0, 1}, "J": {2, 3}, "R": {4, 5}, "IJ": {0, 1, 2, 3}, "*": {0, 1, 2, 3, 4, 5}, "*-": {-1, 0, 1, 2, 3, 4, 5}, "R-": {-1, 4, 5}}
	for _, c := range []struct {
		op           int
		dst, a, b, c string
	}{
		{1, "IJ", "", "", ""}, {2, "R", "", "", ""}, {3, "R", "", "", ""}, {4, "J", "J", "", ""}, {5, "I", "I", "I", ""}, {6, "I", "I", "", ""},
		{7, "", "IJ", "", ""}, {8, "", "R", "", ""}, {9, "", "R", "I", ""}, {10, "", "I", "", ""}, {11, "", "R", "R", ""}, {12, "", "R", "", ""},
		{13, "*", "R", "I", ""}, {14, "", "R", "I", "*"}, {15, "I", "R", "", ""}, {16, "*", "R", "", ""}, {17, "", "R", "*", ""}, {18, "*", "", "", ""}, {19, "", "*", "", ""},
		{20, "R", "", "", ""}, {21, "R", "I", "", ""}, {22, "I", "R", "", ""}, {23, "*-", "", "", ""}, {24, "*-", "", "", ""}, {25, "*-", "", "", ""}, {26, "*-", "", "", ""},
		{27, "", "", "", ""}, {28, "", "I", "I", ""}, {29, "", "R", "R-", ""}, {31, "", "R", "", ""}, {32, "R", "", "", ""}, {33, "", "", "", ""},
	} {
		for name, want := range map[string]string{"Dst": c.dst, "A": c.a, "B": c.b, "C": c.c} {
			for _, r := range []int{math.MinInt, -2, -1, 0, 1, 2, 3, 4, 5, 6, 7, 1 << 32, math.MaxInt} {
				x := fitting(c.op)
				*field(&x, name) = r
				if want == "" || slices.Contains(kinds[want], r) {
					checkTaken(t, with(x))
				} else if got := ins.Check(with(x)); got != formError {
					t.Errorf("%d with %s %d is well formed", c.op, name, r)
				}
			}
		}
	}
}

// TestWhatIsntNeeded makes no difference, whatever it is.
func TestWhatIsntNeeded(t *testing.T) {
	for _, op := range ops() {
		need := lines[op]
		var needed []string
		for _, c := range slices.Concat(need.writes, need.reads, need.and) {
			needed = append(needed, c.name)
		}
		for _, n := range []int{math.MinInt, -2, -1, 0, 2, 4, registers, math.MaxInt} {
			x := fitting(op)
			for name, set := range map[string]func(){
				"Dst": func() { x.Dst = n }, "A": func() { x.A = n }, "B": func() { x.B = n }, "C": func() { x.C = n },
				"Num": func() { x.Num = int64(n) }, "To": func() { x.To = n }, "Ref": func() { x.Ref = "no type\x00" }, "Args": func() { x.Args = slices.Repeat([]int{n}, 30) },
			} {
				if !slices.Contains(needed, name) {
					set()
					checkTaken(t, with(x))
				}
			}
			// All of them at once stand there now.
			checkTaken(t, with(x))
		}
	}
}

func TestConstants(t *testing.T) {
	for _, n := range []int64{0, 1, -1, math.MaxInt32, math.MinInt32} {
		checkTaken(t, with(api.Ins{Op: 1, Dst: 1, Num: n}))
		checkTaken(t, with(api.Ins{Op: 1, Dst: 3, Num: n}))
	}
	for _, n := range []int64{math.MaxInt32 + 1, math.MinInt32 - 1, 1 << 32, -1 << 32, math.MaxInt64, math.MinInt64} {
		checkRefused(t, with(api.Ins{Op: 1, Dst: 1, Num: n}), "OpConst Num")
		checkTaken(t, with(api.Ins{Op: 1, Dst: 3, Num: n}))
	}
	checkRefused(t, with(api.Ins{Op: 1, Dst: 4}), "OpConst Dst")
}

func TestMovesOfAKind(t *testing.T) {
	for dst := range registers {
		for a := range registers {
			f := with(api.Ins{Op: 4, Dst: dst, A: a})
			if dst/2 == a/2 {
				checkTaken(t, f)
			} else {
				checkRefused(t, f, "OpMove A")
			}
		}
	}
}

// codeKinds are the kinds of what each code takes and makes, in a row.
func codeKinds() map[int64][]int {
	ints, longs := []int{1, 1, 1}, []int{2, 2, 2}
	all := map[int64][]int{116: {1, 1}, 145: {1, 1}, 146: {1, 1}, 147: {1, 1}, 117: {2, 2}, 133: {1, 2}, 136: {2, 1}, 148: {2, 2, 1}}
	for _, code := range []int64{96, 100, 104, 108, 112, 120, 122, 124, 126, 128, 130} {
		all[code], all[code+1] = ints, longs
	}
	for _, code := range []int64{121, 123, 125} {
		all[code] = []int{2, 1, 2}
	}
	return all
}

// TestCodes: of each code just the kinds that it takes and makes fit, for OpBin those of two numbers, for OpUn those of one.
func TestCodes(t *testing.T) {
	all := codeKinds()
	binary, unary := 0, 0
	check := func(x api.Ins, kinds ...int) bool {
		want := slices.Equal(all[x.Num], kinds)
		if got := ins.Check(with(x)); (got == api.OK) != want {
			t.Fatalf("%+v: %v", x, got)
		}
		return want
	}
	for code := int64(-10); code <= 300; code++ {
		for n := range registers * registers * registers {
			a, b, dst := n%registers, n/registers%registers, n/registers/registers
			if check(api.Ins{Op: 5, Dst: dst, A: a, B: b, Num: code}, a/2+1, b/2+1, dst/2+1) {
				binary++
			}
			if check(api.Ins{Op: 6, Dst: dst, A: a, B: b, Num: code}, a/2+1, dst/2+1) {
				unary++
			}
		}
	}
	// Each of a code's kinds has two registers.
	if binary != 23*8 || unary != 7*4*registers {
		t.Errorf("%d of OpBin fit, %d of OpUn", binary, unary)
	}
}

func TestCodesOfOtherCounts(t *testing.T) {
	checkTaken(t, with(api.Ins{Op: 5, Dst: 1, A: 2, B: 3, Num: 148}))
	checkTaken(t, with(api.Ins{Op: 5, Dst: 2, A: 2, B: 0, Num: 121}))
	checkTaken(t, with(api.Ins{Op: 6, Dst: 2, A: 0, Num: 133}))
	// Whatever stands in B, a code of one number is none of OpBin.
	for b := -2; b <= registers; b++ {
		for _, code := range []int64{116, 133, 0, 132, 95, 149, -96} {
			if got := ins.Check(with(api.Ins{Op: 5, Dst: 0, A: 0, B: b, Num: code})); got != formError {
				t.Errorf("OpBin of %d with B %d: %v", code, b, got)
			}
		}
	}
	checkRefused(t, with(api.Ins{Op: 6, Dst: 0, A: 1, Num: 96}), "OpUn Num")
	checkRefused(t, with(api.Ins{Op: 6, Dst: 2, A: 3, Num: 97}), "OpUn Num")
	// What is a code but for high bits is none.
	for _, high := range []int64{1 << 8, 1 << 16, 1 << 32, math.MinInt64} {
		for _, x := range []api.Ins{{Op: 5, Dst: 0, A: 1, B: 1, Num: 96 + high}, {Op: 6, Dst: 0, A: 1, Num: 116 + high}} {
			if got := ins.Check(with(x)); got != formError {
				t.Errorf("%+v: %v", x, got)
			}
		}
	}
}

// TestNumbersFrom0: where the table asks for it, and where it doesn't.
func TestNumbersFrom0(t *testing.T) {
	for _, op := range []int{16, 17, 23, 24, 26} {
		for _, n := range []int64{0, 1, 65536, math.MaxInt64} {
			x := fitting(op)
			x.Num = n
			checkTaken(t, with(x))
		}
		for _, n := range []int64{-1, -65536, math.MinInt64} {
			x := fitting(op)
			x.Num = n
			checkRefused(t, with(x), lines[op].name+" Num")
		}
	}
	for _, op := range []int{18, 19, 20, 25} {
		x := fitting(op)
		x.Num = -1
		checkTaken(t, with(x))
	}
	for n := int64(-2); n <= 7; n++ {
		for op, last := range map[int]int64{28: 5, 29: 1} {
			x := fitting(op)
			x.Num = n
			if n >= 0 && n <= last {
				checkTaken(t, with(x))
			} else {
				checkRefused(t, with(x), lines[op].name+" Num")
			}
		}
	}
}

func TestTypes(t *testing.T) {
	for _, op := range []int{12, 21, 22} {
		for _, ref := range []string{"I", "J", "La;", "[I", "[[[[[[[[J", "[La/b;"} {
			x := fitting(op)
			x.Ref = ref
			checkTaken(t, with(x))
		}
		for _, ref := range []string{"", "a", "V", "N", "La", "L;", "[", "[V", "II", "[[[[[[[[[I", "()V"} {
			x := fitting(op)
			x.Ref = ref
			checkRefused(t, with(x), lines[op].name+" Ref")
		}
	}
	// A text and what an interface is called for may be any.
	for _, op := range []int{3, 25} {
		for _, ref := range []string{"", "a", "f()V", "\x00\xff"} {
			x := fitting(op)
			x.Ref = ref
			checkTaken(t, with(x))
		}
	}
}

func TestArgs(t *testing.T) {
	for op := 23; op <= 26; op++ {
		object := op == 24 || op == 25
		name := lines[op].name + " Args"
		args := func(l ...int) api.Func {
			x := fitting(op)
			x.Args = l
			return with(x)
		}
		many := append([]int{4}, slices.Repeat([]int{0, 2, 4, 1}, 5)...)
		checkTaken(t, args(many...))
		checkRefused(t, args(append(many, 0)...), name)
		checkTaken(t, args(4))
		checkTaken(t, args(5, 0, 2, 4, 5, 5))
		for _, l := range [][]int{nil, {}, {0}, {2}, {0, 4}, {2, 5}} {
			if object {
				checkRefused(t, args(l...), name)
			} else {
				checkTaken(t, args(l...))
			}
		}
		for _, r := range []int{-1, -2, registers, registers + 1, math.MinInt, math.MaxInt} {
			checkRefused(t, args(r), name)
			checkRefused(t, args(4, r), name)
			checkRefused(t, args(4, r, 0), name)
			checkRefused(t, args(4, 0, r), name)
			checkRefused(t, args(append(slices.Clone(many[:20]), r)...), name)
		}
	}
}

func TestPlacesThatAreLedTo(t *testing.T) {
	for op := 27; op <= 29; op++ {
		for to := -2; to <= 7; to++ {
			x := fitting(op)
			x.To = to
			f := with(x)
			switch {
			case to < 0 || to > 4:
				checkRefused(t, f, lines[op].name+" To")
			case to == 1:
				checkRefused(t, f, "led to a catch")
			default:
				checkTaken(t, f)
			}
		}
		for _, to := range []int{math.MinInt, math.MaxInt, 1 << 32} {
			x := fitting(op)
			x.To = to
			checkRefused(t, with(x), lines[op].name+" To")
		}
	}
}

func TestReturns(t *testing.T) {
	for ret := range 4 {
		for a := -3; a <= registers+1; a++ {
			f := api.Func{Regs: []int{1, 1, 2, 2, 3, 3}, Ret: ret, Code: []api.Ins{{Op: 30, A: a}}}
			fits := ret == 0 && a == -1 || ret > 0 && a >= 2*ret-2 && a < 2*ret
			if fits {
				checkTaken(t, f)
			} else {
				checkRefused(t, f, "OpReturn A")
			}
		}
	}
	for _, ret := range []int{-1, 4, 5, math.MinInt, math.MaxInt} {
		checkRefused(t, api.Func{Ret: ret, Code: []api.Ins{{Op: 27}}}, "ret")
		for _, a := range []int{-1, 0} {
			if got := ins.Check(api.Func{Ret: ret, Regs: []int{1}, Code: []api.Ins{{Op: 30, A: a}}}); got != formError {
				t.Errorf("Ret %d with A %d: %v", ret, a, got)
			}
		}
	}
}

func TestLengths(t *testing.T) {
	checkRefused(t, api.Func{}, "length")
	checkRefused(t, api.Func{Code: []api.Ins{}, Regs: []int{1}, Params: []int{0}}, "length")
	// No place can be led to where there is none, nor can a row be about it.
	long := func(n int) api.Func {
		f := api.Func{Regs: []int{1}, Code: make([]api.Ins, n)}
		for i := range f.Code {
			f.Code[i] = api.Ins{Op: 28, To: n - 1 - i}
		}
		f.Code[n-1] = api.Ins{Op: 27, To: n - 1}
		return f
	}
	checkTaken(t, long(19999))
	checkTaken(t, long(20000))
	checkRefused(t, long(20001), "length")
	checkRefused(t, long(40000), "length")
	regs := func(n int) api.Func {
		return api.Func{Regs: slices.Repeat([]int{1, 2, 3}, n)[:n], Params: []int{n - 1}, Code: []api.Ins{{Op: 4, Dst: n - 1, A: n - 1}, {Op: 30, A: -1}}}
	}
	checkTaken(t, regs(251))
	checkTaken(t, regs(20000))
	checkRefused(t, regs(20001), "registers")
	checkRefused(t, regs(40000), "registers")
}

func TestKindsOfRegisters(t *testing.T) {
	for _, kind := range []int{0, -1, 4, 5, math.MinInt, math.MaxInt, 1 << 32, 1<<32 + 1, 64 + 1} {
		for _, at := range []int{0, 1, 2} {
			regs := []int{1, 2, 3}
			regs[at] = kind
			checkRefused(t, api.Func{Regs: regs, Code: []api.Ins{{Op: 27}}}, "kind")
			// Nor does it become one by being used.
			for _, op := range ops() {
				f := with(fitting(op))
				f.Regs = slices.Repeat([]int{kind}, registers)
				if got := ins.Check(f); got != formError {
					t.Errorf("%d with registers of the kind %d: %v", op, kind, got)
				}
			}
		}
	}
}

func TestParams(t *testing.T) {
	f := func(params ...int) api.Func {
		return api.Func{Regs: slices.Repeat([]int{1, 2, 3}, 8), Params: params, Code: []api.Ins{{Op: 30, A: -1}}}
	}
	checkTaken(t, f())
	checkTaken(t, f(23, 0, 12))
	checkTaken(t, f(counted(0, 21)...))
	checkTaken(t, f(counted(3, 21)...))
	checkRefused(t, f(counted(0, 22)...), "many params")
	for _, l := range [][]int{{0, 0}, {5, 0, 5}, {0, 5, 5}, append(counted(0, 20), 0), append(counted(0, 20), 19)} {
		checkRefused(t, f(l...), "param twice")
	}
	for _, r := range []int{24, 25, -1, -2, math.MinInt, math.MaxInt} {
		checkRefused(t, f(r), "param")
		checkRefused(t, f(r, 1), "param")
		checkRefused(t, f(append(counted(0, 20), r)...), "param")
	}
	checkRefused(t, api.Func{Params: []int{0}, Code: []api.Ins{{Op: 30, A: -1}}}, "param")
}

func TestTheLastOneEnds(t *testing.T) {
	for _, op := range ops() {
		f := with(fitting(op))
		f.Code[4] = fitting(op)
		switch op {
		case 27, 30, 31:
			checkTaken(t, f)
		case 32:
			// It may not stand behind what doesn't end, either.
			f.Code[spot] = fitting(27)
			f.Code[spot].To = 0
			f.Code[1], f.Rows = fitting(33), nil
			checkRefused(t, f, "end")
		default:
			checkRefused(t, f, "end")
		}
	}
}

func TestCatches(t *testing.T) {
	for _, op := range ops() {
		// Behind each Op, and behind itself.
		f := api.Func{Regs: []int{1, 1, 2, 2, 3, 3}, Code: []api.Ins{{Op: 33}, fitting(op), {Op: 32, Dst: 4}, {Op: 33}, {Op: 30, A: -1}}}
		if op == 32 {
			f.Code[0] = fitting(30)
		}
		if slices.Contains([]int{27, 30, 31}, op) {
			checkTaken(t, f)
		} else {
			checkRefused(t, f, "catch behind")
		}
	}
	first := api.Func{Regs: []int{3}, Code: []api.Ins{{Op: 32}, {Op: 31}}}
	checkRefused(t, first, "catch behind")
	first.Rows = []api.Row{{From: 1, To: 2, At: 0}}
	checkRefused(t, first, "catch behind")
	// Rows may lead to one again and again, or to none.
	several := api.Func{Regs: []int{3}, Code: []api.Ins{{Op: 31}, {Op: 32}, {Op: 31}, {Op: 32}, {Op: 31}}}
	checkTaken(t, several)
	several.Rows = []api.Row{{From: 0, To: 5, At: 3, Class: "a"}, {From: 0, To: 5, At: 3, Class: "a"}, {From: 2, To: 4, At: 1}}
	checkTaken(t, several)
	// By itself.
	checkRefused(t, api.Func{Regs: []int{3, 1}, Code: []api.Ins{{Op: 30, A: -1}, {Op: 32}, {Op: 27, To: 1}}}, "led to a catch")
	checkRefused(t, api.Func{Regs: []int{3, 1}, Code: []api.Ins{{Op: 28, A: 1, B: 1, To: 2}, {Op: 30, A: -1}, {Op: 32}, {Op: 31}}}, "led to a catch")
}

func TestRows(t *testing.T) {
	for _, c := range []struct {
		row   api.Row
		fault string
	}{
		{api.Row{From: 0, To: 1, At: 1}, ""},
		{api.Row{From: 0, To: 5, At: 1}, ""},
		{api.Row{From: 4, To: 5, At: 1}, ""},
		{api.Row{From: 1, To: 2, At: 1, Class: "no name;"}, ""},
		{api.Row{From: -1, To: 1, At: 1}, "row from"},
		{api.Row{From: math.MinInt, To: 5, At: 1}, "row from"},
		{api.Row{From: 0, To: 0, At: 1}, "row empty"},
		{api.Row{From: 3, To: 3, At: 1}, "row empty"},
		{api.Row{From: 3, To: 2, At: 1}, "row empty"},
		{api.Row{From: 0, To: math.MinInt, At: 1}, "row empty"},
		{api.Row{From: math.MaxInt, To: 5, At: 1}, "row empty"},
		{api.Row{From: 5, To: 5, At: 1}, "row empty"},
		{api.Row{From: 0, To: 6, At: 1}, "row to"},
		{api.Row{From: 5, To: 6, At: 1}, "row to"},
		{api.Row{From: 4, To: math.MaxInt, At: 1}, "row to"},
		{api.Row{From: 0, To: 5, At: 0}, "row at"},
		{api.Row{From: 0, To: 5, At: 2}, "row at"},
		{api.Row{From: 0, To: 5, At: 4}, "row at"},
		{api.Row{From: 0, To: 5, At: 5}, "row at"},
		{api.Row{From: 0, To: 5, At: -1}, "row at"},
		{api.Row{From: 0, To: 5, At: math.MinInt}, "row at"},
		{api.Row{From: 0, To: 5, At: math.MaxInt}, "row at"},
	} {
		good := api.Row{From: 0, To: 5, At: 1}
		for _, rows := range [][]api.Row{{c.row}, {c.row, good}, {good, c.row}, {good, c.row, good}} {
			f := with(fitting(33))
			f.Rows = rows
			if c.fault == "" {
				checkTaken(t, f)
			} else {
				checkRefused(t, f, c.fault)
			}
		}
	}
	f := with(fitting(33))
	f.Rows = slices.Repeat([]api.Row{{From: 0, To: 5, At: 1, Class: "a"}}, 300)
	checkTaken(t, f)
}

// TestAFaultAnywhere: it needn't stand at the beginning, nor where it is come to.
func TestAFaultAnywhere(t *testing.T) {
	for at := range 40 {
		f := api.Func{Regs: []int{1}, Code: slices.Repeat([]api.Ins{{Op: 33}}, 40)}
		f.Code[0] = api.Ins{Op: 30, A: -1}
		f.Code[39] = api.Ins{Op: 30, A: -1}
		checkTaken(t, f)
		f.Code[at] = api.Ins{Op: 34}
		if got := ins.Check(f); got != formError {
			t.Errorf("at %d: %v", at, got)
		}
		f.Code[at] = api.Ins{Op: 27, To: 40}
		checkRefused(t, f, "OpGoto To")
		f.Code[at] = api.Ins{Op: 31}
		checkRefused(t, f, "OpThrow A")
	}
}
