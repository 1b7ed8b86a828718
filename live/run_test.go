package live_test

import (
	"fmt"
	"hash/fnv"
	"slices"
	"testing"

	"reglet/api"
	"reglet/ins"
	"reglet/live"
	"reglet/num"
)

// A machine does functions instruction by instruction. What it doesn't know (what is read elsewhere, what comes of a call, whether something throws, and what that is a kind of) it makes of a seed, and of what was done so far.
type machine struct {
	f    api.Func
	seed uint64
	regs []int64
	// What was done, with what it read.
	done []string
}

// So much of a run is looked at.
const mostDone = 30

// run tells what a well formed function does when its registers hold these numbers at the beginning, in order, and how it ends.
func run(f api.Func, seed uint64, begin []int64) []string {
	m := &machine{f: f, seed: seed, regs: slices.Clone(begin)}
	for at := 0; at >= 0 && len(m.done) < mostDone; {
		at = m.step(at)
	}
	return m.done
}

// begin are the registers of a call: arguments in the Params, 0 in all others.
func begin(f api.Func, seed uint64) []int64 {
	regs := make([]int64, len(f.Regs))
	m := &machine{f: f, seed: seed}
	for i, r := range f.Params {
		regs[r] = m.any("argument", i)
	}
	return regs
}

// any is a small number that hangs on the seed, on how much was done, and on the words.
func (m *machine) any(words ...any) int64 {
	h := fnv.New64a()
	fmt.Fprint(h, m.seed, len(m.done), words)
	return int64(h.Sum64() >> 20 % 3)
}

// step does what is at a place, and tells the place where it goes on; -1: nowhere.
func (m *machine) step(at int) int {
	x := m.f.Code[at]
	var read []int64
	for _, r := range ins.Uses(x) {
		read = append(read, m.regs[r])
	}
	m.done = append(m.done, fmt.Sprint(at, x.Op, read))
	switch {
	case x.Op == 30:
		return -1
	case x.Op == 31, ins.Throws(x) && m.any("throws", read) == 0:
		return m.catch(at)
	}
	if r := ins.Def(x); r >= 0 {
		m.regs[r] = m.any("writes", read)
	}
	if leads(x, read) {
		return x.To
	}
	return at + 1
}

// leads: does the instruction, having read that, go on at its To?
func leads(x api.Ins, read []int64) bool {
	switch x.Op {
	case 27:
		return true
	case 28:
		return num.Holds(x.Num, read[0], read[1])
	case 29:
		// Where there is no other one it is nothing.
		other := append(read, 0)[1]
		return (read[0] == other) == (x.Num == 0)
	}
	return false
}

// catch is the place where what is thrown at a place goes on.
func (m *machine) catch(at int) int {
	for _, r := range m.f.Rows {
		if r.From <= at && at < r.To && (r.Class == "" || m.any("is a", r.Class) == 0) {
			return r.At
		}
	}
	return -1
}

// differs: is there a run of the function that does otherwise, if other numbers lie in these registers?
func differs(f api.Func, registers []int) bool {
	for seed := range uint64(8) {
		regs := begin(f, seed)
		want := run(f, seed, regs)
		for _, r := range registers {
			regs[r] += 1 + int64(seed%2)
		}
		if !slices.Equal(run(f, seed, regs), want) {
			return true
		}
	}
	return false
}

// liveAtFirst are the registers of a function that are live ahead of its beginning, or those that aren't.
func liveAtFirst(f api.Func, is bool) []int {
	table := live.Of(f)
	return slices.DeleteFunc(counted(len(f.Regs)), func(r int) bool { return table.Before(0, r) != is })
}

// checkOthersMakeNoDifference: what isn't live ahead of the beginning of a well formed function can be anything, one by one and all together.
func checkOthersMakeNoDifference(t *testing.T, f api.Func) {
	t.Helper()
	others := liveAtFirst(f, false)
	for _, r := range others {
		if differs(f, []int{r}) {
			t.Fatalf("%s: register %d isn't live at the beginning, but makes a difference", told(f), r)
		}
	}
	if differs(f, others) {
		t.Fatalf("%s: registers %v aren't live at the beginning, but make a difference", told(f), others)
	}
}

// TestMachine: what a function reads must make a difference to what it does, and runs must go all ways.
func TestMachine(t *testing.T) {
	for code, want := range map[string][]int{
		"return 0":                                     {0},
		"add 2 0 1, return 2":                          {0, 1},
		"if 0 1 1, return -1":                          {0, 1},
		"ifref 3 -1 1, return -1":                      {3},
		"call 0 1 3, print 2, return 0":                {1, 2, 3},
		"store 3 0 1, null 4, throw 5":                 {0, 1, 3, 4, 5},
		"const 0, if 0 1 0, goto 3, zero 2, return -1": {1, 2},
	} {
		f := fn(code)
		for r := range f.Regs {
			if got := differs(f, []int{r}); got != slices.Contains(want, r) {
				t.Errorf("%s: register %d makes a difference: %v", code, r, got)
			}
		}
	}
	f := fn("print 0, call 1, print 1, if 1 2 0, return -1, catch 3, print 2, goto 0", "1/2:5 a")
	seen := map[string]int{}
	for seed := range uint64(100) {
		l := run(f, seed, begin(f, seed))
		for _, s := range l {
			var at, op int
			fmt.Sscan(s, &at, &op)
			seen[fmt.Sprint(at)]++
		}
		seen[l[len(l)-1][:1]+" is the last"]++
	}
	for _, what := range []string{"0", "1", "2", "3", "4", "5", "6", "7", "1 is the last", "4 is the last"} {
		if seen[what] < 5 {
			t.Errorf("only %d times %s: %v", seen[what], what, seen)
		}
	}
}
