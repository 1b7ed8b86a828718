package fold_test

import (
	"math"
	"reflect"
	"testing"

	"reglet/api"
	"reglet/fold"
	"reglet/ins"
	"reglet/num"
)

// The edges of ints and longs, and numbers by which a shift goes further than it has bits.
var (
	intEdges  = []int64{0, 1, -1, 2, -2, 3, 7, -7, 31, 32, 33, -31, -32, 63, 64, 65, 127, 128, -128, -129, 255, 256, 32767, 32768, 65535, 65536, -32768, -32769, 1 << 30, math.MaxInt32 - 1, math.MaxInt32, math.MinInt32 + 1, math.MinInt32}
	longEdges = append([]int64{1 << 31, -1<<31 - 1, 1<<32 - 1, 1 << 32, -1 << 32, 1<<32 + 1, 1<<33 + 5, 1 << 62, math.MaxInt64 - 1, math.MaxInt64, math.MinInt64 + 1, math.MinInt64}, intEdges...)
)

// edgesOf are those of a kind.
func edgesOf(kind int) []int64 {
	if kind == 2 {
		return longEdges
	}
	return intEdges
}

// codesOf are the codes of OpBin, or of OpUn.
func codesOf(isBin bool) []int {
	var l []int
	for code := range 1000 {
		if first, second, _ := num.Kinds(code); first != 0 && (second != 0) == isBin {
			l = append(l, code)
		}
	}
	return l
}

// sumOf is a function over a register of each kind that is read and one that is written: two numbers, what is computed of them, and what is said of that.
func sumOf(x api.Ins, a, b int64) api.Func {
	first, second, made := num.Kinds(int(x.Num))
	f := api.Func{Regs: []int{first, max(second, 1), made}, Ret: made}
	x.A, x.B, x.Dst = 0, 1, 2
	f.Code = []api.Ins{{Op: 1, Dst: 0, Num: a}, {Op: 1, Dst: 1, Num: b}, x, {Op: 19, A: 2}, {Op: 30, A: 2}}
	return f
}

// checkSum: such a function gives back a constant.
func checkSum(t *testing.T, x api.Ins, a, b, want int64) {
	t.Helper()
	f := sumOf(x, a, b)
	if e := ins.Check(f); e != api.OK {
		t.Fatalf("%s: %v", told(f), e)
	}
	g := fold.Pass(f)
	wanted := ins.Copy(f)
	wanted.Code[2] = api.Ins{Op: 1, Dst: 2, Num: want}
	if !reflect.DeepEqual(g, wanted) {
		t.Fatalf("%d of %d and %d becomes %+v, want %d", x.Num, a, b, g.Code[2], want)
	}
	if e := ins.Check(g); e != api.OK {
		t.Fatalf("%d of %d and %d becomes %s: %v", x.Num, a, b, told(g), e)
	}
}

// TestAllCodes: each code of OpBin and of OpUn, at the edges, is what layer 1 answers.
func TestAllCodes(t *testing.T) {
	bins, uns := codesOf(true), codesOf(false)
	if len(bins) != 23 || len(uns) != 7 {
		t.Fatalf("codes %v and %v", bins, uns)
	}
	for _, code := range bins {
		first, second, _ := num.Kinds(code)
		for _, a := range edgesOf(first) {
			for _, b := range edgesOf(second) {
				checkSum(t, api.Ins{Op: 5, Num: int64(code)}, a, b, num.Two(code, a, b))
			}
		}
	}
	for _, code := range uns {
		first, _, _ := num.Kinds(code)
		for _, a := range edgesOf(first) {
			// The second number is there, but isn't read.
			checkSum(t, api.Ins{Op: 6, Num: int64(code)}, a, 5, num.One(code, a))
		}
	}
}

// TestSums by layer 1's table, told here once more.
func TestSums(t *testing.T) {
	for _, c := range []struct{ code, a, b, want int64 }{
		{96, math.MaxInt32, 1, math.MinInt32}, {97, math.MaxInt32, 1, 1 << 31}, {97, math.MaxInt64, 1, math.MinInt64},
		{100, math.MinInt32, 1, math.MaxInt32}, {101, math.MinInt32, 1, math.MinInt32 - 1}, {104, 1 << 16, 1 << 16, 0}, {105, 1 << 16, 1 << 16, 1 << 32},

		{108, 7, 0, 0}, {108, math.MinInt32, 0, 0}, {108, 0, 0, 0}, {109, 7, 0, 0}, {109, math.MinInt64, 0, 0}, {112, 7, 0, 0}, {112, -7, 0, 0}, {113, 7, 0, 0}, {113, math.MinInt64, 0, 0},
		{108, 7, -1, -7}, {108, math.MinInt32, -1, math.MinInt32}, {109, math.MinInt32, -1, 1 << 31}, {109, math.MinInt64, -1, math.MinInt64}, {112, 7, -1, 0}, {112, math.MinInt32, -1, 0}, {113, math.MinInt64, -1, 0},
		{108, -7, 2, -3}, {109, -7, 2, -3}, {112, -7, 2, -1}, {113, 7, -2, 1},

		{120, 1, 32, 1}, {120, 1, 33, 2}, {120, 1, 31, math.MinInt32}, {120, 1, -1, math.MinInt32}, {121, 1, 32, 1 << 32}, {121, 1, 64, 1}, {121, 1, 65, 2}, {121, 1, 63, math.MinInt64}, {121, 1, -1, math.MinInt64},
		{122, -8, 33, -4}, {122, -8, 32, -8}, {122, math.MinInt32, -1, -1}, {123, -8, 65, -4}, {123, -8, 32, -1}, {123, math.MinInt64, 64, math.MinInt64},
		{124, -1, 31, 1}, {124, -1, 32, -1}, {124, -1, 63, 1}, {125, -1, 63, 1}, {125, -1, 32, 1<<32 - 1}, {125, -1, 64, -1}, {125, -1, 127, 1},
		{126, 12, 10, 8}, {128, 12, 10, 14}, {130, 12, 10, 6}, {127, 3 << 40, 1 << 40, 1 << 40}, {129, 1 << 40, 1, 1<<40 + 1}, {131, -1, 1 << 40, -1 - 1<<40},

		{148, 1, 2, -1}, {148, 2, 2, 0}, {148, 3, 2, 1}, {148, math.MinInt64, math.MaxInt64, -1}, {148, math.MaxInt64, math.MinInt64, 1}, {148, 1 << 32, 0, 1}, {148, 0, 1 << 32, -1}, {148, math.MinInt64, math.MinInt64, 0}, {148, -1, 1<<32 - 1, -1},
	} {
		checkSum(t, api.Ins{Op: 5, Num: c.code}, c.a, c.b, c.want)
	}
	for _, c := range []struct{ code, a, want int64 }{
		{116, 5, -5}, {116, math.MinInt32, math.MinInt32}, {117, math.MinInt32, 1 << 31}, {117, math.MinInt64, math.MinInt64},
		{133, -1, -1}, {133, math.MinInt32, math.MinInt32}, {136, 1 << 32, 0}, {136, 1<<32 - 1, -1}, {136, 1 << 31, math.MinInt32}, {136, math.MaxInt64, -1},
		{145, 127, 127}, {145, 128, -128}, {145, 256, 0}, {146, -1, 65535}, {146, 65536, 0}, {147, 32767, 32767}, {147, 32768, -32768}, {147, -32769, 32767},
	} {
		checkSum(t, api.Ins{Op: 6, Num: c.code}, c.a, 5, c.want)
	}
}

// TestConditions: a way is taken where layer 1 says that its condition holds, and not taken where it doesn't.
func TestConditions(t *testing.T) {
	for cond, holds := range []func(a, b int64) bool{
		func(a, b int64) bool { return a == b }, func(a, b int64) bool { return a != b }, func(a, b int64) bool { return a < b },
		func(a, b int64) bool { return a >= b }, func(a, b int64) bool { return a > b }, func(a, b int64) bool { return a <= b },
	} {
		ways := map[int]int{}
		for _, a := range intEdges {
			for _, b := range intEdges {
				f := fn("const 0 0, const 1 0, ifint 0 0 1 5, return 0, return 1, return 2")
				f.Code[0].Num, f.Code[1].Num, f.Code[2].Num = a, b, int64(cond)
				want := ins.Copy(f)
				want.Code[2] = api.Ins{Op: 33}
				if holds(a, b) {
					want.Code[2] = api.Ins{Op: 27, To: 5}
				}
				if g := fold.Pass(f); !reflect.DeepEqual(g, want) {
					t.Fatalf("condition %d of %d and %d becomes %+v", cond, a, b, g.Code[2])
				}
				checkPass(t, f)
				ways[want.Code[2].Op]++
			}
		}
		if ways[27] < len(intEdges) || ways[33] < len(intEdges) {
			t.Errorf("condition %d: %v", cond, ways)
		}
	}
}

// TestWays: wherever a known way leads, it leads there still; one register beside another one that isn't known is not enough, nor are two of the same that aren't.
func TestWays(t *testing.T) {
	for cond, code := range []string{"goto", "nop", "nop", "goto", "nop", "goto"} {
		num := string(rune('0' + cond))
		for _, to := range []string{"0", "1", "2", "3"} {
			want := code
			if code == "goto" {
				want += " " + to
			}
			ahead, behind := "const 0 2, ", ", return 0, return 1"
			if to == "1" {
				// The way itself begins a block: nothing is known there.
				want = "ifint " + num + " 0 0 1"
			}
			checkChanges(t, []changes{
				{"to " + to, ahead + "ifint " + num + " 0 0 " + to + behind, ahead + want + behind},
				{"the first not known, to " + to, ahead + "ifint " + num + " 1 0 " + to + behind, ahead + "ifint " + num + " 1 0 " + to + behind},
				{"the second not known, to " + to, ahead + "ifint " + num + " 0 1 " + to + behind, ahead + "ifint " + num + " 0 1 " + to + behind},
				{"neither known, to " + to, ahead + "ifint " + num + " 1 1 " + to + behind, ahead + "ifint " + num + " 1 1 " + to + behind},
			})
		}
	}
	checkChanges(t, []changes{
		{"by what was computed", "const 0 2, add 1 0 0, ifint 4 1 0 4, return 0, return 1", "const 0 2, const 1 4, goto 4, return 0, return 1"},
		{"by what was moved", "const 0 2, move 1 0, ifint 1 1 0 4, return 0, return 1", "const 0 2, const 1 2, nop, return 0, return 1"},
		{"by what was compared", "const 8 5, const 9 6, compare 0 8 9, const 1 0, ifint 2 0 1 6, return 0, return 1", "const 8 5, const 9 6, const 0 -1, const 1 0, goto 6, return 0, return 1"},
		{"by what isn't known any more", "const 0 2, call 0, ifint 0 0 0 4, return 0, return 1", "const 0 2, call 0, ifint 0 0 0 4, return 0, return 1"},
	})
}
