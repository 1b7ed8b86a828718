package dead_test

import (
	"reflect"
	"slices"
	"strconv"
	"strings"
	"testing"

	"reglet/api"
	"reglet/dead"
	"reglet/flow"
	"reglet/ins"
	"reglet/live"
)

// TestExample is the chapter's.
func TestExample(t *testing.T) {
	f := api.Func{Regs: []int{1, 1}, Code: []api.Ins{{Op: 1, Dst: 0}, {Op: 4, Dst: 1, A: 0}, {Op: 30, A: -1}}}
	g := checkAll(t, f)
	if want := []api.Ins{{Op: 33}, {Op: 33}, {Op: 30, A: -1}}; !reflect.DeepEqual(g.Code, want) {
		t.Errorf("%+v", g.Code)
	}
}

// A changes is a function told in words, and what becomes of it.
type changes struct{ what, code, want string }

// checkChanges holds Pass against what becomes of functions with those rows.
func checkChanges(t *testing.T, list []changes, rows ...string) {
	t.Helper()
	for _, c := range list {
		f, want := fn(c.code, rows...), fn(c.want, rows...)
		if e := ins.Check(f); e != api.OK {
			t.Errorf("%s: %s: %v", c.what, c.code, e)
			continue
		}
		if got := dead.Pass(f); !reflect.DeepEqual(got, want) {
			t.Errorf("%s: %s becomes\n     %+v\nwant %+v", c.what, c.code, got.Code, want.Code)
		}
		checkAll(t, f)
	}
}

// pures are all pure instructions, over registers of each kind that they may be over, with the register that each writes.
var pures = map[string]int{
	"const 0 2": 0, "const 8 2": 8, "nothing 5": 5, "text 5": 5, "move 0 1": 0, "move 5 6": 5, "move 8 9": 8, "add 0 1 2": 0, "bin 97 8 9 10": 8, "compare 0 8 9": 0,
	"negative 0 1": 0, "un 117 8 9": 8, "un 136 0 8": 0, "un 133 8 0": 8, "load 0 5 1": 0, "load 6 5 1": 6, "load 8 5 1": 8, "len 0 5": 0,
	"getfield 0 5": 0, "getfield 6 5": 6, "getfield 8 5": 8, "getstatic 0": 0, "getstatic 5": 5, "getstatic 8": 8, "instance 0 5": 0,
}

// TestPure: each pure Op is taken away if nobody reads its register, and stays if somebody does.
func TestPure(t *testing.T) {
	ops := map[int]bool{}
	for what, r := range pures {
		x := instruction(strings.Fields(what))
		if !ins.Pure(x) || ins.Def(x) != r {
			t.Fatal(what)
		}
		ops[x.Op] = true
		read := ", return " + strconv.Itoa(r)
		write := ", call " + strconv.Itoa(r)
		checkChanges(t, []changes{
			{"read by nobody", what + ", return -1", "nop, return -1"},
			{"read", what + read, what + read},
			{"read by nobody, behind what throws", "call -1, " + what + ", return -1", "call -1, nop, return -1"},
			{"written again and read", what + write + read, "nop" + write + read},
			{"read by an argument", what + ", call -1 " + strconv.Itoa(r) + ", return -1", what + ", call -1 " + strconv.Itoa(r) + ", return -1"},
			{"the same twice, read", what + ", " + what + read, strings.Join([]string{"nop", what}, ", ") + read},
		})
	}
	for op := range 34 {
		if ins.Pure(api.Ins{Op: op}) != ops[op] {
			t.Errorf("%d is pure: %v", op, ins.Pure(api.Ins{Op: op}))
		}
	}
}

// others are instructions that aren't pure, one of each Op at least; none leads anywhere else than to place 2.
var others = []string{
	"zerocheck 0", "zerocheck 8", "nullcheck 5", "boundcheck 5 0", "sizecheck 0", "storecheck 5 6", "castcheck 5", "store 5 0 1", "store 5 0 6", "putfield 5 0", "putfield 5 8",
	"putstatic 0", "putstatic 5", "new 5", "newarray 5 0", "call 0", "call 5 1", "call 8 0 1 2", "call -1", "callvirtual 0 5", "callvirtual 5 5 1", "callvirtual -1 6", "calliface 0 5", "calliface 8 5 0", "calliface -1 5",
	"callnative 0 1", "callnative 5", "callnative -1 0", "goto 2", "ifint 0 0 1 2", "ifref 5 6 2", "ifref 5 -1 2", "return -1", "throw 5", "nop",
}

// TestOthersStay: whatever isn't pure stays, though nobody reads what it writes; and who it reads stays, too.
func TestOthersStay(t *testing.T) {
	ops := map[int]bool{32: true}
	for _, what := range others {
		x := instruction(strings.Fields(what))
		if ins.Pure(x) {
			t.Fatal(what)
		}
		ops[x.Op] = true
		checkChanges(t, []changes{
			{"read by nobody", "nop, " + what + ", return -1", "nop, " + what + ", return -1"},
			{"twice, read by nobody", "nop, " + what + ", " + what + ", return -1", "nop, " + what + ", " + what + ", return -1"},
		})
		for _, r := range slices.Compact(slices.Sorted(slices.Values(ins.Uses(x)))) {
			move := "move " + strconv.Itoa(r) + " " + strconv.Itoa(r+1)
			checkChanges(t, []changes{{"who is read", move + ", " + what + ", return -1", move + ", " + what + ", return -1"}})
		}
	}
	checkChanges(t, []changes{
		{"what was thrown", "throw 5, catch 6, return -1", "throw 5, catch 6, return -1"},
		{"what was thrown, written again", "throw 5, catch 6, nothing 6, throw 6", "throw 5, catch 6, nothing 6, throw 6"},
		{"what was thrown, and what is dead", "throw 5, catch 6, nothing 5, return -1", "throw 5, catch 6, nop, return -1"},
	}, "0/1:1")
	for op := 1; op <= 33; op++ {
		if ins.Pure(api.Ins{Op: op}) == ops[op] {
			t.Errorf("%d is among the others: %v", op, ops[op])
		}
	}
}

func TestInABlock(t *testing.T) {
	checkChanges(t, []changes{
		{"nothing pure", "putstatic 0, return 1", "putstatic 0, return 1"},
		{"nothing dead", "const 0 2, add 1 0 2, return 1", "const 0 2, add 1 0 2, return 1"},
		{"all dead", "const 0 2, getstatic 1, nothing 5, return -1", "nop, nop, nop, return -1"},
		{"one of two", "const 0 2, const 1 3, return 1", "nop, const 1 3, return 1"},
		{"the other one", "const 0 2, const 1 3, return 0", "const 0 2, nop, return 0"},
		{"read, and written then", "const 0 2, putstatic 0, const 0 3, return 1", "const 0 2, putstatic 0, nop, return 1"},
		{"read behind another write alone", "const 0 2, const 0 3, return 0", "nop, const 0 3, return 0"},
		{"read behind another write, by who isn't pure", "const 0 2, call 0, return 0", "nop, call 0, return 0"},
		{"read behind several writes", "const 0 2, move 0 1, getstatic 0, add 0 2 3, return 0", "nop, nop, nop, add 0 2 3, return 0"},
		{"read by who writes it", "const 0 2, add 0 0 1, return 0", "const 0 2, add 0 0 1, return 0"},
		{"read by who writes it, and is dead", "const 0 2, add 0 0 1, return 1", "nop, nop, return 1"},
		{"read by who writes it, ahead of another write", "const 0 2, add 0 0 1, const 0 3, return 0", "nop, nop, const 0 3, return 0"},
		{"read by the call that writes it", "const 0 2, call 0 0, return -1", "const 0 2, call 0 0, return -1"},
		{"another one is read", "const 0 2, move 2 1, return 2", "nop, move 2 1, return 2"},
		{"moved to itself", "move 0 0, return 0", "move 0 0, return 0"},
		{"moved to itself for nobody", "const 0 2, move 0 0, return 1", "nop, nop, return 1"},
		{"given back", "const 0 2, nop, return 0", "const 0 2, nop, return 0"},
		{"thrown", "nothing 5, nothing 6, throw 5", "nothing 5, nop, throw 5"},
		{"what was there stays there", "nop, const 0 2, nop, return 1", "nop, nop, nop, return 1"},
	})
}

// TestReadByWhatIsGone: who is read by nobody but by those that are taken away goes with them.
func TestReadByWhatIsGone(t *testing.T) {
	checkChanges(t, []changes{
		{"a row", "const 0 2, move 1 0, move 2 1, move 3 2, return 4", "nop, nop, nop, nop, return 4"},
		{"a row whose last one is read", "const 0 2, move 1 0, move 2 1, move 3 2, return 3", "const 0 2, move 1 0, move 2 1, move 3 2, return 3"},
		{"a row that is read in its midst", "const 0 2, move 1 0, move 2 1, move 3 2, return 1", "const 0 2, move 1 0, nop, nop, return 1"},
		{"a row over two registers", "move 1 0, move 0 1, move 1 0, move 0 1, return 2", "nop, nop, nop, nop, return 2"},
		{"and its last one is read", "move 1 0, move 0 1, move 1 0, move 0 1, return 0", "move 1 0, move 0 1, move 1 0, move 0 1, return 0"},
		{"a row over one register", "const 0 2, add 0 0 0, negative 0 0, add 0 0 0, return 1", "nop, nop, nop, nop, return 1"},
		{"and its last one is read", "const 0 2, add 0 0 0, negative 0 0, add 0 0 0, return 0", "const 0 2, add 0 0 0, negative 0 0, add 0 0 0, return 0"},
		{"a row of all kinds", "text 5, instance 0 5, un 133 8 0, move 9 8, compare 1 8 9, load 6 5 1, len 2 6, getfield 7 6, return -1", "nop, nop, nop, nop, nop, nop, nop, nop, return -1"},
		{"and its last one is read", "text 5, instance 0 5, un 133 8 0, move 9 8, compare 1 8 9, load 6 5 1, getfield 7 6, throw 7", "text 5, instance 0 5, un 133 8 0, move 9 8, compare 1 8 9, load 6 5 1, getfield 7 6, throw 7"},

		{"two that one read", "const 0 2, const 1 3, add 2 0 1, return 3", "nop, nop, nop, return 3"},
		{"one that two read", "const 0 2, move 1 0, move 2 0, return 3", "nop, nop, nop, return 3"},
		{"one that two read, of which one stays", "const 0 2, move 1 0, move 2 0, return 1", "const 0 2, move 1 0, nop, return 1"},
		{"and it is the other one", "const 0 2, move 1 0, move 2 0, return 2", "const 0 2, nop, move 2 0, return 2"},
		{"one that another one reads too", "const 0 2, move 1 0, call -1 0, return 2", "const 0 2, nop, call -1 0, return 2"},
		{"one that a check reads too", "const 0 2, move 1 0, zerocheck 0, return 2", "const 0 2, nop, zerocheck 0, return 2"},
		{"one that is read behind another write too", "const 0 2, move 1 0, call 0, return 0", "nop, nop, call 0, return 0"},
		{"one of two that are read", "const 0 2, const 1 3, add 2 0 1, return 1", "nop, const 1 3, nop, return 1"},
		{"a call whose argument stays", "const 0 2, call 1 0, move 2 1, return -1", "const 0 2, call 1 0, nop, return -1"},
		{"a thing that is made", "new 5, move 6 5, nothing 7, return -1", "new 5, nop, nop, return -1"},
		{"an array that is made of a number", "const 0 2, newarray 5 0, len 1 5, return -1", "const 0 2, newarray 5 0, nop, return -1"},
		{"through what stays", "const 0 2, putfield 5 0, getfield 1 5, move 2 1, return -1", "const 0 2, putfield 5 0, nop, nop, return -1"},
	})
}

// TestOwnAndOutputs: what is live by the function's own liveness may be dead by the output's.
func TestOwnAndOutputs(t *testing.T) {
	f := fn("const 0 2, move 1 0, move 2 1, return 3")
	own := live.Of(f)
	if !own.After(0, 0) || !own.After(1, 1) || own.After(2, 2) {
		t.Fatal("by its own liveness the last one alone is dead")
	}
	if _, rounds := reference(f); rounds != 3 {
		t.Fatalf("the reference goes over it %d times", rounds)
	}
	if g := checkAll(t, f); !slices.Equal(opsOf(g), []int{33, 33, 33, 30}) {
		t.Errorf("%s becomes %s", told(f), told(g))
	}
}

func opsOf(f api.Func) []int {
	var l []int
	for _, x := range f.Code {
		l = append(l, x.Op)
	}
	return l
}

// TestCircles: what reads itself round a circle of ways is live there, by layer 13, and so is who brings it there.
func TestCircles(t *testing.T) {
	checkChanges(t, []changes{
		{"read by itself alone", "const 0 2, add 0 0 1, ifint 2 1 2 1, return 1", "const 0 2, add 0 0 1, ifint 2 1 2 1, return 1"},
		{"by itself alone, for ever", "const 0 2, negative 0 0, goto 1", "const 0 2, negative 0 0, goto 1"},
		{"moved to itself", "const 0 2, move 0 0, goto 1", "const 0 2, move 0 0, goto 1"},
		{"two that read each other", "const 0 2, move 1 0, move 0 1, goto 1", "const 0 2, move 1 0, move 0 1, goto 1"},
		{"two that change places", "move 2 0, move 0 1, move 1 2, goto 0", "move 2 0, move 0 1, move 1 2, goto 0"},
		{"what hangs on it", "const 0 2, add 0 0 1, move 2 0, move 3 2, ifint 2 1 1 1, return 1", "const 0 2, add 0 0 1, nop, nop, ifint 2 1 1 1, return 1"},
		{"what it hangs on", "const 1 2, move 2 1, add 0 0 2, goto 2", "const 1 2, move 2 1, add 0 0 2, goto 2"},
		{"written again in the circle", "const 0 2, add 0 0 1, const 0 3, goto 1", "nop, nop, nop, goto 1"},
		{"written again at the circle's beginning", "const 0 2, getstatic 0, add 0 0 1, goto 1", "nop, nop, nop, goto 1"},
		{"written again by a call", "const 0 2, add 0 0 1, call 0, goto 1", "nop, nop, call 0, goto 1"},
		{"written again on one of two ways", "const 0 2, add 0 0 1, ifint 2 1 1 1, const 0 3, goto 1", "const 0 2, add 0 0 1, ifint 2 1 1 1, const 0 3, goto 1"},
		{"two of which the second is written again", "const 0 2, move 1 0, move 0 1, const 1 3, goto 1", "const 0 2, move 1 0, move 0 1, nop, goto 1"},
		{"two, the first of which is written again", "const 0 2, const 0 3, move 1 0, move 2 1, goto 1", "nop, nop, nop, nop, goto 1"},
		{"read in the circle by what is dead", "const 0 2, move 1 0, putstatic 2, goto 1", "nop, nop, putstatic 2, goto 1"},
		{"read in the circle by what is dead, behind others", "const 0 2, putstatic 2, putstatic 3, move 1 0, goto 1", "nop, putstatic 2, putstatic 3, nop, goto 1"},
		{"read in the circle by what stays", "const 0 2, putstatic 0, goto 1", "const 0 2, putstatic 0, goto 1"},
		{"written in the circle, read ahead of it", "const 0 2, putstatic 0, const 0 3, goto 2", "const 0 2, putstatic 0, nop, goto 2"},
		{"written in the circle, read behind it", "const 0 2, ifint 2 1 1 0, return 0", "const 0 2, ifint 2 1 1 0, return 0"},
		{"written in the circle, read at its beginning", "putstatic 0, const 0 2, goto 0", "putstatic 0, const 0 2, goto 0"},
		{"a circle in a circle", "const 0 2, const 1 3, move 2 0, ifint 2 4 4 2, move 3 1, ifint 2 4 4 2, return 4", "nop, nop, nop, ifint 2 4 4 2, nop, ifint 2 4 4 2, return 4"},
		{"a circle of nothing else", "const 0 2, goto 1", "nop, goto 1"},
		{"a row once round a circle", "move 1 0, goto 3, move 3 2, move 2 1, goto 2", "nop, goto 3, nop, nop, goto 2"},
		{"a row against the circle", "move 3 2, move 2 1, move 1 0, goto 0", "nop, nop, nop, goto 0"},
	})
}

func TestWays(t *testing.T) {
	checkChanges(t, []changes{
		{"read on one of two ways", "const 0 2, ifint 2 1 1 3, return 1, return 0", "const 0 2, ifint 2 1 1 3, return 1, return 0"},
		{"on the other one", "const 0 2, ifint 2 1 1 3, return 0, return 1", "const 0 2, ifint 2 1 1 3, return 0, return 1"},
		{"on none", "const 0 2, ifint 2 1 1 3, return 1, return 2", "nop, ifint 2 1 1 3, return 1, return 2"},
		{"written on the way where it is read", "const 0 2, ifint 2 1 1 3, return 1, const 0 3, return 0", "nop, ifint 2 1 1 3, return 1, const 0 3, return 0"},
		{"written on both", "const 0 2, ifref 5 6 4, const 0 3, goto 5, const 0 4, return 0", "nop, ifref 5 6 4, const 0 3, goto 5, const 0 4, return 0"},
		{"written on one of two that meet", "const 0 2, ifref 5 6 3, const 0 3, return 0", "const 0 2, ifref 5 6 3, const 0 3, return 0"},
		{"written on one, read on the other", "const 0 2, ifref 5 6 4, const 0 3, return 1, return 0", "const 0 2, ifref 5 6 4, nop, return 1, return 0"},
		{"read where ways meet", "ifref 5 6 3, const 0 2, goto 4, const 0 3, return 0", "ifref 5 6 3, const 0 2, goto 4, const 0 3, return 0"},
		{"read where ways meet by what is dead", "ifref 5 6 3, const 0 2, goto 4, const 0 3, move 1 0, return 2", "ifref 5 6 3, nop, goto 4, nop, nop, return 2"},
		{"read by what is dead where ways meet, and by what stays on one", "ifref 5 6 4, const 0 2, putstatic 0, goto 5, const 0 3, move 1 0, return 2", "ifref 5 6 4, const 0 2, putstatic 0, goto 5, nop, nop, return 2"},
		{"read by what is dead on one of two ways", "const 0 2, ifref 5 6 3, move 1 0, return 2", "nop, ifref 5 6 3, nop, return 2"},
		{"on one, and by what stays on the other one", "const 0 2, ifref 5 6 4, move 1 0, return 2, return 0", "const 0 2, ifref 5 6 4, nop, return 2, return 0"},
		{"a row over ways", "const 0 2, goto 3, return 4, move 1 0, ifref 5 6 6, nop, move 2 1, ifref 5 6 6, return 4", "nop, goto 3, return 4, nop, ifref 5 6 6, nop, nop, ifref 5 6 6, return 4"},
		{"a row that is laid back", "goto 5, return 4, move 2 1, goto 1, move 1 0, const 0 2, goto 4", "goto 5, return 4, nop, goto 1, nop, nop, goto 4"},
		{"that is read at its end", "goto 6, return 2, move 2 1, goto 1, move 1 0, goto 2, const 0 2, goto 4", "goto 6, return 2, move 2 1, goto 1, move 1 0, goto 2, const 0 2, goto 4"},
		{"a way to the next place", "const 0 2, ifint 2 1 1 2, move 3 0, ifref 5 6 4, return 0", "const 0 2, ifint 2 1 1 2, nop, ifref 5 6 4, return 0"},
		{"what is compared", "const 0 2, const 1 3, ifint 2 0 1 4, nothing 5, return -1", "const 0 2, const 1 3, ifint 2 0 1 4, nop, return -1"},
		{"things that are compared", "nothing 5, text 6, text 7, ifref 5 6 4, return -1", "nothing 5, text 6, nop, ifref 5 6 4, return -1"},
		{"a way that is never taken is one", "const 0 2, const 1 1, ifint 1 1 1 4, return 1, return 0", "const 0 2, const 1 1, ifint 1 1 1 4, return 1, return 0"},

		{"what can't be reached", "return 0, const 0 2, const 1 3, return 1", "return 0, nop, const 1 3, return 1"},
		{"a row that can't be reached", "return 0, const 1 2, move 2 1, add 3 2 1, return 0", "return 0, nop, nop, nop, return 0"},
		{"a circle that can't be reached", "return 0, const 1 2, move 2 1, goto 1", "return 0, nop, nop, goto 1"},
		{"one that reads itself", "return 0, add 1 1 1, goto 1", "return 0, add 1 1 1, goto 1"},
		{"what is read where nobody comes", "const 0 2, return 1, return 0", "nop, return 1, return 0"},
		{"what leads from where nobody comes to who reads it", "goto 3, const 0 2, goto 3, return 0", "goto 3, const 0 2, goto 3, return 0"},
		{"and to who doesn't", "goto 3, const 0 2, goto 3, return 1", "goto 3, nop, goto 3, return 1"},
		{"read by what is dead, and nobody comes to that", "goto 4, move 1 0, goto 4, const 0 3, return 2", "goto 4, nop, goto 4, nop, return 2"},
	})
}

// TestRows: what throws doesn't write, and what it throws is caught by the first row of all at the latest.
func TestRows(t *testing.T) {
	for rows, list := range map[string][]changes{
		"1/2:3": {
			{"read where a thing is caught alone", "const 0 2, call -1, return 1, catch 5, return 0", "const 0 2, call -1, return 1, catch 5, return 0"},
			{"written behind what throws", "const 0 2, call -1, return 1, catch 5, const 0 3, return 0", "nop, call -1, return 1, catch 5, const 0 3, return 0"},
			{"written by what throws, and read behind it", "const 0 2, call 0, return 0, catch 5, return 1", "nop, call 0, return 0, catch 5, return 1"},
			{"written by what throws, and read where that is caught", "const 0 2, call 0, return 1, catch 5, return 0", "const 0 2, call 0, return 1, catch 5, return 0"},
			{"read nowhere", "const 0 2, call 0, return 1, catch 5, return 1", "nop, call 0, return 1, catch 5, return 1"},
			{"a new thing", "nothing 5, new 5, throw 5, catch 6, throw 5", "nothing 5, new 5, throw 5, catch 6, throw 5"},
			{"the thing that is caught lies over it", "nothing 5, call -1, throw 6, catch 5, throw 5", "nop, call -1, throw 6, catch 5, throw 5"},
			{"what is thrown", "nothing 5, throw 5, return 0, catch 6, return 0", "nothing 5, throw 5, return 0, catch 6, return 0"},
			{"a check", "const 0 2, zerocheck 1, return 1, catch 5, return 0", "const 0 2, zerocheck 1, return 1, catch 5, return 0"},
			{"nothing throws", "const 0 2, putstatic 1, return 1, catch 5, return 0", "nop, putstatic 1, return 1, catch 5, return 0"},
			{"what is pure doesn't throw", "const 0 2, load 3 5 1, return 3, catch 5, return 0", "nop, load 3 5 1, return 3, catch 5, return 0"},
			{"what throws is behind the row", "const 0 2, putstatic 1, throw 5, catch 5, return 0", "nop, putstatic 1, throw 5, catch 5, return 0"},
			{"read where it is caught by what is dead", "const 0 2, call 0, return 1, catch 5, move 3 0, return 1", "nop, call 0, return 1, catch 5, nop, return 1"},
			{"a row through what throws", "const 0 2, call 0, return 1, catch 5, move 3 0, move 4 3, return 4", "const 0 2, call 0, return 1, catch 5, move 3 0, move 4 3, return 4"},
			{"caught, and round again", "const 0 2, call 0, return 0, catch 5, goto 1", "nop, call 0, return 0, catch 5, goto 1"},
			{"caught, and round again to who reads it", "const 0 2, call 0 0, return 1, catch 5, goto 1", "const 0 2, call 0 0, return 1, catch 5, goto 1"},
		},
		"1/4:6": {
			{"written between two that throw", "const 0 2, call -1, const 0 3, call -1, return 1, throw 5, catch 5, return 0", "const 0 2, call -1, const 0 3, call -1, return 1, throw 5, catch 5, return 0"},
			{"written behind both", "const 0 2, call -1, call -1, const 0 3, return 1, throw 5, catch 5, return 0", "const 0 2, call -1, call -1, nop, return 1, throw 5, catch 5, return 0"},
			{"written ahead of both", "const 0 2, const 0 3, call -1, call -1, return 1, throw 5, catch 5, return 0", "nop, const 0 3, call -1, call -1, return 1, throw 5, catch 5, return 0"},
			{"written by both", "const 0 2, putstatic 1, call 0, call 0, return 0, throw 5, catch 5, return 0", "const 0 2, putstatic 1, call 0, call 0, return 0, throw 5, catch 5, return 0"},
			{"a row in a row", "const 0 2, move 2 0, move 3 2, call -1, return 1, throw 5, catch 5, return 1", "nop, nop, nop, call -1, return 1, throw 5, catch 5, return 1"},
			{"that is read where a thing is caught", "const 0 2, move 2 0, move 3 2, call -1, return 1, throw 5, catch 5, return 3", "const 0 2, move 2 0, move 3 2, call -1, return 1, throw 5, catch 5, return 3"},
			{"that is read there by what is dead", "const 0 2, move 2 0, move 3 2, call -1, return 1, throw 5, catch 5, move 4 3, return 1", "nop, nop, nop, call -1, return 1, throw 5, catch 5, nop, return 1"},
		},
		"0/2:3 a, 0/2:5 b": {
			{"read where the first row leads", "const 0 2, call -1, return 1, catch 5, return 0, catch 5, return 1", "const 0 2, call -1, return 1, catch 5, return 0, catch 5, return 1"},
			{"read where the second row leads", "const 0 2, call -1, return 1, catch 5, return 1, catch 5, return 0", "const 0 2, call -1, return 1, catch 5, return 1, catch 5, return 0"},
			{"read there by what is dead", "const 0 2, call -1, return 1, catch 5, return 1, catch 5, move 3 0, return 1", "nop, call -1, return 1, catch 5, return 1, catch 5, nop, return 1"},
			{"read there by what is dead, and where the first row leads", "const 0 2, call -1, return 1, catch 5, return 0, catch 5, move 3 0, return 1", "const 0 2, call -1, return 1, catch 5, return 0, catch 5, nop, return 1"},
		},
		"0/2:3, 0/2:5 b": {
			{"read where a row behind one of all leads", "const 0 2, call -1, return 1, catch 5, return 1, catch 5, return 0", "nop, call -1, return 1, catch 5, return 1, catch 5, return 0"},
			{"read where the row of all leads", "const 0 2, call -1, return 1, catch 5, return 0, catch 5, return 1", "const 0 2, call -1, return 1, catch 5, return 0, catch 5, return 1"},
		},
		"0/6:3": {
			{"a row about its own place, round for ever", "const 0 2, call -1, throw 5, catch 5, move 1 0, call -1, goto 1", "nop, call -1, throw 5, catch 5, nop, call -1, goto 1"},
			{"what is caught in a circle of its own", "const 0 2, call -1, throw 5, catch 5, add 0 0 1, throw 5", "const 0 2, call -1, throw 5, catch 5, add 0 0 1, throw 5"},
		},
		"1/2:3, 5/6:7": {
			{"caught twice, and read then", "const 0 2, call -1, return 1, catch 5, move 2 0, call -1, throw 5, catch 5, return 2", "const 0 2, call -1, return 1, catch 5, move 2 0, call -1, throw 5, catch 5, return 2"},
			{"caught twice, and read by nobody", "const 0 2, call -1, return 1, catch 5, move 2 0, call -1, throw 5, catch 5, return 1", "nop, call -1, return 1, catch 5, nop, call -1, throw 5, catch 5, return 1"},
			{"caught twice, and read by what is dead", "const 0 2, call -1, return 1, catch 5, move 2 0, call -1, throw 5, catch 5, move 3 2, return 1", "nop, call -1, return 1, catch 5, nop, call -1, throw 5, catch 5, nop, return 1"},
		},
	} {
		checkChanges(t, list, strings.Split(rows, ", ")...)
	}
}

// TestWhatIsntNeeded: numbers in fields that an Op doesn't need are no registers, and stay where the instruction does; OpNop has none.
func TestWhatIsntNeeded(t *testing.T) {
	filled := func(x api.Ins) api.Ins {
		x.To, x.Args = 1, []int{0, 2}
		for _, spot := range []*int{&x.Dst, &x.A, &x.B, &x.C} {
			if *spot == 0 {
				*spot = 2
			}
		}
		return x
	}
	for what, c := range map[string]struct{ x, want api.Ins }{
		"OpConst, read":     {api.Ins{Op: 1, Dst: 1, Ref: "1"}, api.Ins{Op: 1, Dst: 1, Ref: "1"}},
		"OpConst, dead":     {api.Ins{Op: 1, Dst: 3, Num: 7, Ref: "1"}, api.Ins{Op: 33}},
		"OpNull, dead":      {api.Ins{Op: 2, Dst: 5, Num: 7, Ref: "1"}, api.Ins{Op: 33}},
		"OpMove, read":      {api.Ins{Op: 4, Dst: 1, A: 3, Num: 96, Ref: "1"}, api.Ins{Op: 4, Dst: 1, A: 3, Num: 96, Ref: "1"}},
		"OpMove, dead":      {api.Ins{Op: 4, Dst: 3, A: 1, Num: 96, Ref: "1"}, api.Ins{Op: 33}},
		"OpLoad, dead":      {api.Ins{Op: 13, Dst: 3, A: 5, B: 1, Num: 7}, api.Ins{Op: 33}},
		"OpNop":             {api.Ins{Op: 33, Num: 7, Ref: "1"}, api.Ins{Op: 33, Num: 7, Ref: "1"}},
		"OpPutStatic":       {api.Ins{Op: 19, A: 3, Num: 7}, api.Ins{Op: 19, A: 3, Num: 7}},
		"OpGetStatic, dead": {api.Ins{Op: 18, Dst: 3, Num: 7}, api.Ins{Op: 33}},
	} {
		// Register 2 is read by nobody, whatever stands there.
		f := fn("const 2 9, nop, const 0 3, return 1")
		f.Code[1] = filled(c.x)
		want := c.want
		if want.Op == c.x.Op {
			want = filled(want)
		}
		if e := ins.Check(f); e != api.OK {
			t.Fatalf("%s: %v", what, e)
		}
		g := checkAll(t, f)
		if !reflect.DeepEqual(g.Code[1], want) {
			t.Errorf("%s becomes %+v", what, g.Code[1])
		}
		if g.Code[0].Op != 33 || g.Code[2].Op != 33 {
			t.Errorf("around %s: %s", what, told(g))
		}
	}
}

// TestManyArguments: each of 21 is read.
func TestManyArguments(t *testing.T) {
	for _, op := range []int{23, 24, 25, 26} {
		f := api.Func{Regs: slices.Concat([]int{3}, slices.Repeat([]int{1}, 30))}
		for r := 1; r <= 30; r++ {
			f.Code = append(f.Code, api.Ins{Op: 1, Dst: r, Num: 7})
		}
		call := api.Ins{Op: op, Dst: -1}
		for i := range 21 {
			call.Args = append(call.Args, i*i*2%31)
		}
		f.Code = append(f.Code, call, api.Ins{Op: 30, A: -1})
		g := checkAll(t, f)
		for i := range 30 {
			if got, want := g.Code[i].Op == 1, slices.Contains(call.Args, i+1); got != want {
				t.Errorf("%d: register %d is written still: %v", op, i+1, got)
			}
		}
	}
}

// TestSet: what is taken away was read by nobody, so that nothing is read unset for that.
func TestSet(t *testing.T) {
	for _, c := range []struct {
		what         string
		f            api.Func
		want         string
		isSet, isNow bool
	}{
		{"a number", given(fn("const 0 2, move 1 0, return 1")), "const 0 2, move 1 0, return 1", true, true},
		{"a number that nobody reads", given(fn("const 0 2, const 1 3, return 1")), "nop, const 1 3, return 1", true, true},
		{"what isn't set", given(fn("const 0 2, move 1 2, return 1")), "nop, move 1 2, return 1", false, false},
		{"what isn't set, read by what is dead", given(fn("const 0 2, move 1 2, return 0")), "const 0 2, nop, return 0", false, true},
		{"set on one way", given(fn("nothing 5, ifref 5 -1 3, const 0 2, return 0")), "nothing 5, ifref 5 -1 3, const 0 2, return 0", false, false},
		{"set twice", given(fn("const 0 2, nothing 5, ifref 5 -1 4, nop, const 0 3, return 0")), "nop, nothing 5, ifref 5 -1 4, nop, const 0 3, return 0", true, true},
		{"set again on one way", given(fn("const 0 2, nothing 5, ifref 5 -1 4, const 0 3, return 0")), "const 0 2, nothing 5, ifref 5 -1 4, const 0 3, return 0", true, true},
		{"not set where it is caught", given(fn("call 0, return 0, catch 5, return 0", "0/1:2")), "call 0, return 0, catch 5, return 0", false, false},
		{"set ahead of it", given(fn("const 0 2, call 0, return 0, catch 5, return 0", "1/2:3")), "const 0 2, call 0, return 0, catch 5, return 0", true, true},
		{"where nobody comes", given(fn("return -1, putstatic 3, goto 0")), "return -1, putstatic 3, goto 0", true, true},
	} {
		if flow.Set(c.f) != c.isSet {
			t.Errorf("%s: sets what it reads: %v", c.what, !c.isSet)
		}
		if g := checkAll(t, c.f); !reflect.DeepEqual(g.Code, fn(c.want).Code) || flow.Set(g) != c.isNow {
			t.Errorf("%s: %s becomes %s", c.what, told(c.f), told(g))
		}
	}
}

// TestOthers: what isn't well formed stays as it is.
func TestOthers(t *testing.T) {
	with := func(change func(f *api.Func)) api.Func {
		f := fn("const 0 2, move 1 0, ifint 0 2 2 0, call 2 1 1, return 2, catch 5, const 3 4, return 2", "0/4:5")
		change(&f)
		return f
	}
	for what, f := range map[string]api.Func{
		"nothing":                {},
		"nothing but lists":      {Regs: []int{}, Params: []int{}, Code: []api.Ins{}, Rows: []api.Row{}},
		"nothing but a row":      {Rows: []api.Row{{From: 0, To: 1, At: 0}}},
		"doesn't end":            fn("const 0 2, const 1 3, putstatic 2"),
		"ends with what is dead": fn("putstatic 2, const 0 2"),
		"to no place":            with(func(f *api.Func) { f.Code[2].To = 8 }),
		"to below 0":             with(func(f *api.Func) { f.Code[2].To = -1 }),
		"no such register":       with(func(f *api.Func) { f.Code[6].Dst = 12 }),
		"a register below":       with(func(f *api.Func) { f.Code[6].Dst = -1 }),
		"reads no register":      with(func(f *api.Func) { f.Code[1].A = 12 }),
		"no such condition":      with(func(f *api.Func) { f.Code[2].Num = 6 }),
		"an int too great":       with(func(f *api.Func) { f.Code[6].Num = 1 << 31 }),
		"no such argument":       with(func(f *api.Func) { f.Code[3].Args = []int{1, 77} }),
		"22 arguments":           with(func(f *api.Func) { f.Code[3].Args = slices.Repeat([]int{1}, 22) }),
		"another kind":           with(func(f *api.Func) { f.Regs[3] = 3 }),
		"no kind":                with(func(f *api.Func) { f.Regs[7] = 4 }),
		"no Op":                  with(func(f *api.Func) { f.Code[3].Op = 34 }),
		"no such parameter":      with(func(f *api.Func) { f.Params[0] = 12 }),
		"a parameter twice":      with(func(f *api.Func) { f.Params[0] = 1 }),
		"gives back a long":      with(func(f *api.Func) { f.Ret = 2 }),
		"nobody catches":         with(func(f *api.Func) { f.Rows[0].At = 6 }),
		"about nothing":          with(func(f *api.Func) { f.Rows[0].To = 0 }),
		"about too much":         with(func(f *api.Func) { f.Rows[0].To = 9 }),
		"to a catch":             with(func(f *api.Func) { f.Code[2].To = 5 }),
		"moved to another kind":  with(func(f *api.Func) { f.Code[1] = api.Ins{Op: 4, Dst: 8, A: 0} }),
	} {
		if e := ins.Check(f); e == api.OK {
			t.Errorf("%s: %s is well formed", what, told(f))
		}
		checkAll(t, f)
	}
	f := with(func(*api.Func) {})
	if g := checkAll(t, f); g.Code[6].Op != 33 || g.Code[0].Op != 1 {
		t.Errorf("%s becomes %s", told(f), told(g))
	}
}
