package ins_test

import (
	"math"
	"slices"
	"strings"
	"testing"

	"reglet/api"
	"reglet/ins"
)

func TestExamplesOfTheChapter(t *testing.T) {
	if got := ins.Uses(api.Ins{Op: 14, A: 1, B: 2, C: 3}); !slices.Equal(got, []int{1, 2, 3}) {
		t.Errorf("Uses of OpStore: %v", got)
	}
	if got := ins.Def(api.Ins{Op: 23, Dst: -1}); got != -1 {
		t.Errorf("Def of OpCall: %d", got)
	}
	if got := ins.Check(api.Func{Code: []api.Ins{{Op: 33}}}); got != formError {
		t.Errorf("Check of OpNop alone: %v", got)
	}
}

// TestReferenceTable: the reference must have read the chapter's table as it is meant.
func TestReferenceTable(t *testing.T) {
	writes, reads, args, ands, throws := 0, 0, 0, 0, 0
	for _, l := range lines {
		writes += len(l.writes)
		for _, c := range l.reads {
			if c.name == "Args" {
				args++
			} else {
				reads++
			}
		}
		for _, c := range l.and {
			if c.name != "" {
				ands++
			}
		}
		if l.throws {
			throws++
		}
	}
	if len(lines) != 33 || ops()[0] != 1 || ops()[32] != 33 || writes != 18 || reads != 30 || args != 4 || ands != 18 || throws != 13 {
		t.Fatalf("%d lines: %d write, %d fields and %d lists are read, %d things are needed, %d throw", len(lines), writes, reads, args, ands, throws)
	}
}

// byHand says of each Op what it reads, whether it writes, and what else it is.
const byHand = `
1: writes pure
2: writes pure
3: writes pure
4: A writes pure
5: A B writes pure
6: A writes pure
7: A throws
8: A throws
9: A B throws
10: A throws
11: A B throws
12: A throws
13: A B writes pure
14: A B C
15: A writes pure
16: A writes pure
17: A B
18: writes pure
19: A
20: writes throws
21: A writes throws
22: A writes pure
23: Args writes calls throws
24: Args writes calls throws
25: Args writes calls throws
26: Args writes calls throws
27: leads ends
28: A B leads
29: A B leads
30: A ends
31: A throws ends
32: writes
33:
`

// words are the words of byHand, by the Ops.
func words() map[int][]string {
	all := map[int][]string{}
	for _, line := range strings.Split(strings.TrimSpace(byHand), "\n") {
		op, rest, _ := strings.Cut(line, ":")
		all[atoi(op)] = strings.Fields(rest)
	}
	return all
}

func TestEachOp(t *testing.T) {
	all := words()
	if len(all) != 33 {
		t.Fatalf("%d Ops", len(all))
	}
	values := map[string][]int{"A": {11}, "B": {12}, "C": {13}, "Args": {14, 15, 14}}
	for op, words := range all {
		x := api.Ins{Op: op, Dst: 10, A: 11, B: 12, C: 13, Num: 1, To: 16, Ref: "I", Args: []int{14, 15, 14}}
		var uses []int
		for _, word := range words {
			uses = append(uses, values[word]...)
		}
		if got := ins.Uses(x); !slices.Equal(got, uses) {
			t.Errorf("Uses(%+v) = %v, want %v", x, got, uses)
		}
		def := -1
		if slices.Contains(words, "writes") {
			def = 10
		}
		if got := ins.Def(x); got != def {
			t.Errorf("Def(%+v) = %d, want %d", x, got, def)
		}
		for word, got := range map[string]bool{"calls": ins.Calls(x), "throws": ins.Throws(x), "pure": ins.Pure(x), "leads": ins.Leads(x), "ends": ins.Ends(x)} {
			if got != slices.Contains(words, word) {
				t.Errorf("%d %s: %v", op, word, got)
			}
		}
		checkIns(t, x)
	}
}

// TestFieldsMakeNoDifference: what an Op is hangs on its number alone, and what it reads and writes on no Num, To or Ref.
func TestFieldsMakeNoDifference(t *testing.T) {
	for op := -1; op <= 35; op++ {
		for _, n := range []int{math.MinInt, -2, -1, 0, 1, 5, 96, 116, math.MaxInt} {
			checkIns(t, api.Ins{Op: op, Num: int64(n), To: n})
			checkIns(t, api.Ins{Op: op, Num: int64(n), To: n, Ref: "[I", Args: []int{n, 1}})
			checkIns(t, api.Ins{Op: op, Dst: n, A: 1, B: 2, C: 3})
			checkIns(t, api.Ins{Op: op, A: n, B: 2, C: 3})
			checkIns(t, api.Ins{Op: op, A: 1, B: n, C: 3})
			checkIns(t, api.Ins{Op: op, A: 1, B: 2, C: n})
			checkIns(t, api.Ins{Op: op, Dst: n, A: n, B: n, C: n, Args: []int{n, n, n}})
		}
	}
}

// TestNoOps: what stands outside the table reads, writes and is nothing.
func TestNoOps(t *testing.T) {
	l := []int{math.MinInt, math.MinInt + 1, math.MinInt32, math.MaxInt32, math.MaxInt - 1, math.MaxInt}
	for op := -300; op <= 0; op++ {
		l = append(l, op)
	}
	for op := 34; op <= 400; op++ {
		l = append(l, op)
	}
	for op := range 34 {
		l = append(l, op+1<<16, op-1<<16, op+1<<32, op-1<<32, op+math.MinInt, ^op)
	}
	for _, op := range l {
		x := api.Ins{Op: op, Dst: 1, A: 2, B: 3, C: 4, Num: 5, To: 6, Ref: "I", Args: []int{7}}
		if len(ins.Uses(x)) > 0 || ins.Def(x) != -1 || ins.Calls(x) || ins.Throws(x) || ins.Pure(x) || ins.Leads(x) || ins.Ends(x) {
			t.Fatalf("%d is one of the table", op)
		}
		checkIns(t, x)
	}
}

// TestRegistersBelow0: only two fields may have none, and the one that is written is answered as it stands.
func TestRegistersBelow0(t *testing.T) {
	for _, c := range []struct {
		x    api.Ins
		uses []int
		def  int
	}{
		{api.Ins{Op: 29, A: 7, B: -1}, []int{7}, -1},
		{api.Ins{Op: 29, A: 7, B: -2}, []int{7}, -1},
		{api.Ins{Op: 29, A: 7, B: math.MinInt}, []int{7}, -1},
		{api.Ins{Op: 29, A: 7, B: 0}, []int{7, 0}, -1},
		{api.Ins{Op: 29, A: -1, B: -1}, []int{-1}, -1},
		{api.Ins{Op: 29, A: -1, B: 4}, []int{-1, 4}, -1},
		{api.Ins{Op: 30, A: -1}, nil, -1},
		{api.Ins{Op: 30, A: -5}, nil, -1},
		{api.Ins{Op: 30, A: 0}, []int{0}, -1},
		{api.Ins{Op: 30, A: 3, Dst: 9}, []int{3}, -1},
		{api.Ins{Op: 31, A: -1}, []int{-1}, -1},
		{api.Ins{Op: 4, Dst: -1, A: -1}, []int{-1}, -1},
		{api.Ins{Op: 5, Dst: -3, A: -1, B: -2}, []int{-1, -2}, -3},
		{api.Ins{Op: 14, Dst: 5, A: -1, B: -2, C: -3}, []int{-1, -2, -3}, -1},
		{api.Ins{Op: 28, A: 3, B: -1}, []int{3, -1}, -1},
		{api.Ins{Op: 11, A: 3, B: -1}, []int{3, -1}, -1},
		{api.Ins{Op: 23, Dst: -1, A: 3}, nil, -1},
		{api.Ins{Op: 24, Dst: -1, Args: []int{-1, 4, -2}}, []int{-1, 4, -2}, -1},
		{api.Ins{Op: 25, Dst: 0, Args: []int{4}}, []int{4}, 0},
		{api.Ins{Op: 26, Dst: -7, Args: []int{4}}, []int{4}, -7},
	} {
		if got := ins.Uses(c.x); !slices.Equal(got, c.uses) {
			t.Errorf("Uses(%+v) = %v, want %v", c.x, got, c.uses)
		}
		if got := ins.Def(c.x); got != c.def {
			t.Errorf("Def(%+v) = %d, want %d", c.x, got, c.def)
		}
	}
}

// TestManyArgs: all are read, in order and twice where they stand twice, were they too many too; and only by a call.
func TestManyArgs(t *testing.T) {
	for _, n := range []int{0, 1, 2, 20, 21, 22, 500} {
		var args []int
		for i := range n {
			args = append(args, (i*7)%11)
		}
		for op := 0; op <= 34; op++ {
			checkIns(t, api.Ins{Op: op, Dst: 2, A: 3, B: 4, C: 5, Args: args})
		}
		for op := 23; op <= 26; op++ {
			if got := ins.Uses(api.Ins{Op: op, A: 3, B: 4, C: 5, Args: args}); !slices.Equal(got, args) {
				t.Errorf("Uses of %d with %v: %v", op, args, got)
			}
		}
	}
}
