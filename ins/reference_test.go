package ins_test

import (
	"regexp"
	"slices"
	"strconv"
	"strings"
	"testing"

	"reglet/api"
	"reglet/desc"
	"reglet/ins"
	"reglet/num"
)

// The reference reads the chapter's table as it is printed, and judges by what its cells say, phrase by phrase. Of a function it lists all faults. What layers 1 and 2 answer it takes as they say.

// formError is ErrForm by its number: api's names could be changed with the program.
const formError = api.Errno(80)

const chapterTable = `
| OpConst 1 | * (no R) | | Num: of an I a number of 32 bits | |
| OpNull 2 | R | | | |
| OpText 3 | R | | Ref | |
| OpMove 4 | * | A of its kind | | |
| OpBin 5 | by Num | A, B by Num | Num: a code whose Kinds (layer 1) have a second number | |
| OpUn 6 | by Num | A by Num | Num: one whose Kinds have none, but a first | |
| OpZeroCheck 7 | | A * (no R) | | ZeroFault, if A is 0 |
| OpNullCheck 8 | | A R | | NullFault, if A is nothing |
| OpBoundCheck 9 | | A R, B I | | BoundsFault, if B is no place of A |
| OpSizeCheck 10 | | A I | | SizeFault, if A is below 0 |
| OpStoreCheck 11 | | A R, B R | | StoreFault, if B isn't nothing and may not lie in A |
| OpCastCheck 12 | | A R | Ref: a type | CastFault, if A isn't nothing and is no Ref |
| OpLoad 13 | * | A R, B I | | |
| OpStore 14 | | A R, B I, C * | | |
| OpLen 15 | I | A R | | |
| OpGetField 16 | * | A R | Num from 0 on | |
| OpPutField 17 | | A R, B * | Num from 0 on | |
| OpGetStatic 18 | * | | | |
| OpPutStatic 19 | | A * | | |
| OpNew 20 | R | | | MemoryFault |
| OpNewArray 21 | R | A I | Ref: a type | MemoryFault |
| OpInstance 22 | I | A R | Ref: a type | |
| OpCall 23, OpCallNative 26 | * (or -1) | Args, 21 at most | Num from 0 on | what the method throws |
| OpCallVirtual 24 | * (or -1) | Args, 1 to 21, the first R | Num from 0 on | likewise |
| OpCallIface 25 | * (or -1) | Args, 1 to 21, the first R | Ref (any text) | likewise |
| OpGoto 27 | | | To | |
| OpIfInt 28 | | A I, B I | To; Num 0 to 5 | |
| OpIfRef 29 | | A R, B R (or -1: none) | To; Num 0 or 1 | |
| OpReturn 30 | | A of what the function gives back (-1: none, if that is nothing) | | |
| OpThrow 31 | | A R | | A |
| OpCatch 32 | R | | | |
| OpNop 33 | | | | |
`

// The sentences about an Op that stand below the table.
var (
	chapterLeads = strings.Split("OpGoto, OpIfInt, OpIfRef", ", ")
	chapterEnds  = strings.Split("OpGoto, OpReturn, OpThrow", ", ")
	chapterPure  = strings.Split("OpConst, OpNull, OpText, OpMove, OpBin, OpUn, OpLoad, OpLen, OpGetField, OpGetStatic, OpInstance", ", ")
)

// A cell says what must be of a field: its name, and the words about it.
type cell struct{ name, words string }

// A line is what the table says of an Op: of Dst, of the fields that it reads, and of what else it needs.
type line struct {
	name   string
	writes []cell
	reads  []cell
	and    []cell
	throws bool
}

// lines are those of the table, by the Ops' numbers.
var lines = readLines()

var (
	oneOp    = regexp.MustCompile(`(Op[A-Za-z]+) ([0-9]+)`)
	oneField = regexp.MustCompile(`\b(A|B|C|Args)\b([^()ABC]*(?:\([^)]*\))?)`)
)

func readLines() map[int]line {
	all := map[int]line{}
	for _, text := range strings.Split(strings.TrimSpace(chapterTable), "\n") {
		cells := strings.Split(text, "|")
		for i := range cells {
			cells[i] = strings.TrimSpace(cells[i])
		}
		var l line
		if cells[2] != "" {
			l.writes = []cell{{"Dst", cells[2]}}
		}
		for _, found := range oneField.FindAllStringSubmatch(cells[3], -1) {
			l.reads = append(l.reads, cell{found[1], strings.Trim(found[2], ", ")})
		}
		for _, part := range strings.Split(cells[4], "; ") {
			name, _, _ := strings.Cut(strings.ReplaceAll(part, ":", ""), " ")
			l.and = append(l.and, cell{name, part})
		}
		l.throws = cells[5] != ""
		for _, found := range oneOp.FindAllStringSubmatch(cells[1], -1) {
			l.name = found[1]
			op, _ := strconv.Atoi(found[2])
			all[op] = l
		}
	}
	return all
}

// ops are all Ops of the table, in order.
func ops() []int {
	var l []int
	for op := range lines {
		l = append(l, op)
	}
	slices.Sort(l)
	return l
}

// said: does one of the sentences name the Op?
func said(sentence []string, op int) bool { return slices.Contains(sentence, lines[op].name) }

// field is a register's field by its name.
func field(x *api.Ins, name string) *int {
	switch name {
	case "Dst":
		return &x.Dst
	case "A":
		return &x.A
	case "B":
		return &x.B
	case "C":
		return &x.C
	}
	panic(name)
}

func wantUses(x api.Ins) []int {
	var l []int
	for _, c := range lines[x.Op].reads {
		if c.name == "Args" {
			l = append(l, x.Args...)
			continue
		}
		r := *field(&x, c.name)
		if r >= 0 || !strings.Contains(c.words, "-1: none") {
			l = append(l, r)
		}
	}
	return l
}

func wantDef(x api.Ins) int {
	if len(lines[x.Op].writes) == 0 {
		return -1
	}
	return x.Dst
}

func wantCalls(x api.Ins) bool { return x.Op >= 23 && x.Op <= 26 }

// wantReplace puts registers in one by one, as they are read.
func wantReplace(x api.Ins, l []int) api.Ins {
	x.Args = slices.Clone(x.Args)
	if len(wantUses(x)) != len(l) {
		return x
	}
	for _, c := range lines[x.Op].reads {
		if c.name == "Args" {
			l = l[copy(x.Args, l):]
		} else if len(l) > 0 {
			*field(&x, c.name) = l[0]
			l = l[1:]
		}
	}
	return x
}

// kindAt is a register's kind; 0: it is none.
func kindAt(f api.Func, r int) int {
	if r < 0 || r >= len(f.Regs) {
		return 0
	}
	return f.Regs[r]
}

// isNumber: is it the kind of an int or a long?
func isNumber(kind int) bool { return kind == 1 || kind == 2 }

// byNum are the kinds that Kinds has for the fields of an instruction.
func byNum(x api.Ins) map[string]int {
	first, second, result := num.Kinds(int(x.Num))
	return map[string]int{"A": first, "B": second, "Dst": result}
}

// wrongRegister: does a register's field break what the table says of it?
func wrongRegister(f api.Func, x api.Ins, c cell) bool {
	r := *field(&x, c.name)
	kind := kindAt(f, r)
	switch c.words {
	case "R":
		return kind != 3
	case "I":
		return kind != 1
	case "*":
		return kind == 0
	case "* (no R)":
		return !isNumber(kind)
	case "* (or -1)":
		return kind == 0 && r != -1
	case "of its kind":
		return kind == 0 || kind != kindAt(f, x.Dst)
	case "", "by Num":
		// Of A and B together it is said once.
		return kind == 0 || kind != byNum(x)[c.name]
	case "R (or -1: none)":
		return kind != 3 && r != -1
	case "of what the function gives back (-1: none, if that is nothing)":
		return f.Ret == 0 && r != -1 || f.Ret != 0 && (kind == 0 || kind != f.Ret)
	}
	panic(c.words)
}

// wrongArgs: do the arguments break it?
func wrongArgs(f api.Func, x api.Ins, words string) bool {
	least := map[string]int{"21 at most": 0, "1 to 21, the first R": 1}[words]
	if len(x.Args) < least || len(x.Args) > 21 || least == 1 && kindAt(f, x.Args[0]) != 3 {
		return true
	}
	return slices.ContainsFunc(x.Args, func(r int) bool { return kindAt(f, r) == 0 })
}

// wrongElse: does it lack what else the table asks for?
func wrongElse(f api.Func, x api.Ins, words string) bool {
	switch words {
	case "", "Ref", "Ref (any text)":
		return false
	case "Num: of an I a number of 32 bits":
		return kindAt(f, x.Dst) == 1 && (x.Num < -2147483648 || x.Num > 2147483647)
	case "Num: a code whose Kinds (layer 1) have a second number":
		return byNum(x)["B"] == 0
	case "Num: one whose Kinds have none, but a first":
		return byNum(x)["B"] != 0 || byNum(x)["A"] == 0
	case "Ref: a type":
		return !desc.Type(x.Ref)
	case "Num from 0 on":
		return x.Num < 0
	case "Num 0 to 5":
		return x.Num < 0 || x.Num > 5
	case "Num 0 or 1":
		return x.Num != 0 && x.Num != 1
	case "To":
		return x.To < 0 || x.To >= len(f.Code)
	}
	panic(words)
}

// faultsOf are an instruction's faults by the table: the fields that break it.
func faultsOf(f api.Func, x api.Ins) []string {
	l, there := lines[x.Op]
	if !there {
		return []string{"Op"}
	}
	var faults []string
	for _, c := range slices.Concat(l.writes, l.reads) {
		if c.name == "Args" && wrongArgs(f, x, c.words) || c.name != "Args" && wrongRegister(f, x, c) {
			faults = append(faults, c.name)
		}
	}
	for _, c := range l.and {
		if wrongElse(f, x, c.words) {
			faults = append(faults, c.name)
		}
	}
	return faults
}

// faults are all of a function; none: it is well formed.
func faults(f api.Func) []string {
	var all []string
	fault := func(is bool, name string) {
		if is && !slices.Contains(all, name) {
			all = append(all, name)
		}
	}
	fault(len(f.Code) < 1 || len(f.Code) > 20000, "length")
	fault(len(f.Regs) > 20000, "registers")
	fault(slices.ContainsFunc(f.Regs, func(kind int) bool { return kind < 1 || kind > 3 }), "kind")
	fault(len(f.Params) > 21, "many params")
	seen := map[int]bool{}
	for _, r := range f.Params {
		fault(r < 0 || r >= len(f.Regs), "param")
		fault(seen[r], "param twice")
		seen[r] = true
	}
	fault(f.Ret < 0 || f.Ret > 3, "ret")
	for _, x := range f.Code {
		for _, name := range faultsOf(f, x) {
			fault(true, lines[x.Op].name+" "+name)
		}
		fault(said(chapterLeads, x.Op) && x.To >= 0 && x.To < len(f.Code) && f.Code[x.To].Op == 32, "led to a catch")
	}
	ends := func(i int) bool { return i >= 0 && i < len(f.Code) && said(chapterEnds, f.Code[i].Op) }
	fault(len(f.Code) > 0 && !ends(len(f.Code)-1), "end")
	isCatch := func(i int) bool { return i >= 0 && i < len(f.Code) && f.Code[i].Op == 32 }
	for i := range f.Code {
		fault(isCatch(i) && !ends(i-1), "catch behind")
	}
	for _, r := range f.Rows {
		fault(r.From < 0, "row from")
		fault(r.From >= r.To, "row empty")
		fault(r.To > len(f.Code), "row to")
		fault(!isCatch(r.At), "row at")
	}
	return all
}

// checkIns holds all calls at one instruction against the reference.
func checkIns(t *testing.T, x api.Ins) {
	t.Helper()
	if got, want := ins.Uses(x), wantUses(x); !slices.Equal(got, want) {
		t.Fatalf("Uses(%+v) = %v, want %v", x, got, want)
	}
	if got, want := ins.Def(x), wantDef(x); got != want {
		t.Fatalf("Def(%+v) = %d, want %d", x, got, want)
	}
	for _, c := range []struct {
		name      string
		got, want bool
	}{
		{"Calls", ins.Calls(x), wantCalls(x)},
		{"Throws", ins.Throws(x), lines[x.Op].throws},
		{"Pure", ins.Pure(x), said(chapterPure, x.Op)},
		{"Leads", ins.Leads(x), said(chapterLeads, x.Op)},
		{"Ends", ins.Ends(x), said(chapterEnds, x.Op)},
	} {
		if c.got != c.want {
			t.Fatalf("%s(%+v) = %v", c.name, x, c.got)
		}
	}
}

// checkReplace holds Replace against the reference.
func checkReplace(t *testing.T, x api.Ins, l []int) {
	t.Helper()
	if got, want := ins.Replace(x, l), wantReplace(x, l); !same(got, want) {
		t.Fatalf("Replace(%+v, %v) = %+v, want %+v", x, l, got, want)
	}
}

// same: are they the same instruction? An empty list is none.
func same(x, y api.Ins) bool {
	return slices.Equal(x.Args, y.Args) && x.Op == y.Op && x.Dst == y.Dst && x.A == y.A && x.B == y.B && x.C == y.C && x.Num == y.Num && x.To == y.To && x.Ref == y.Ref
}

// sameFunc: are they the same function?
func sameFunc(f, g api.Func) bool {
	return slices.Equal(f.Regs, g.Regs) && slices.Equal(f.Params, g.Params) && f.Ret == g.Ret && slices.EqualFunc(f.Code, g.Code, same) && slices.Equal(f.Rows, g.Rows)
}

// checkFunc: Check has those faults' error for the function and for its copy, which is the same.
func checkFunc(t *testing.T, f api.Func, faults []string) {
	t.Helper()
	want := api.OK
	if len(faults) > 0 {
		want = formError
	}
	if got := ins.Check(f); got != want {
		t.Fatalf("Check(%s) = %v, want %v: %q", told(f), got, want, faults)
	}
	g := ins.Copy(f)
	if !sameFunc(f, g) {
		t.Fatalf("Copy(%s) = %s", told(f), told(g))
	}
	if got := ins.Check(g); got != want {
		t.Fatalf("Check(Copy(%s)) = %v, want %v", told(f), got, want)
	}
}

// checkReference holds Check against the reference, and all calls at each instruction.
func checkReference(t *testing.T, f api.Func) []string {
	t.Helper()
	l := faults(f)
	checkFunc(t, f, l)
	for _, x := range f.Code {
		checkIns(t, x)
		checkReplace(t, x, wantUses(x))
	}
	return l
}
