package check_test

import (
	"slices"
	"strings"
	"testing"

	"reglet/api"
	"reglet/check"
)

// alphabet are the types by which each place of a row is tried.
var alphabet = strings.Fields("I J N La; Lb; Li; LObject; LString; LThrowable; Le; [I [J [[I [La; [LObject;")

// What fits where, of the alphabet.
const (
	anyType   = "I J N La; Lb; Li; LObject; LString; LThrowable; Le; [I [J [[I [La; [LObject;"
	anyRef    = "La; N Lb; Li; LObject; LString; LThrowable; Le; [I [J [[I [La; [LObject;"
	anyRefs   = "[La; N [[I [LObject;"
	anyArray  = "[J N [I [[I [La; [LObject;"
	ints      = "[I N"
	longs     = "[J N"
	classA    = "La; Lb; N"
	classB    = "Lb; N"
	ifaceI    = "Li; La; Lb; N"
	ifaceJ    = "Lb; N"
	text      = "LString; N"
	throwable = "LThrowable; Le; N"
)

// localsOfRows are the locals by which the rows are tried.
const localsOfRows = "I,J,La;,N,,[I"

// A row of the table: what an instruction finds on the stack (at each place, the lowest first, what fits there), and what it leaves of the first of each.
type tableRow struct {
	text  string
	needs []string
	left  string
}

func need(places ...string) []string { return places }

// tableRows are the chapter's, but for what leads, ends, or is of locals.
func tableRows() []tableRow {
	rows := []tableRow{
		{"0", need(), ""}, {"1", need(), "N"},
		{"16 1", need(), "I"}, {"17 1", need(), "I"}, {"9", need(), "J"}, {"10", need(), "J"},
		{"19 int:5", need(), "I"}, {"19 int:2147483647", need(), "I"}, {"19 int:-2147483648", need(), "I"},
		{"19 long:5", need(), "J"}, {"19 long:9223372036854775807", need(), "J"}, {"19 string:hi", need(), "LString;"}, {"19 string:", need(), "LString;"},
		{"46", need(ints, "I"), "I"}, {"47", need(longs, "I"), "J"}, {"50", need(anyRefs, "I"), "La;"},
		{"79", need(ints, "I", "I"), ""}, {"80", need(longs, "I", "J"), ""}, {"83", need(anyRefs, "I", anyRef), ""},
		{"87", need(anyType), ""}, {"89", need(anyType), "I,I"}, {"90", need("J "+anyType, anyType), "I,J,I"}, {"95", need("J "+anyType, anyType), "I,J"},
		{"148", need("J", "J"), "I"}, {"133", need("I"), "J"}, {"136", need("J"), "I"}, {"116", need("I"), "I"}, {"117", need("J"), "J"},
		{"121", need("J", "I"), "J"}, {"123", need("J", "I"), "J"}, {"125", need("J", "I"), "J"},
		{"178 field:a.sx:I", need(), "I"}, {"178 field:a.sl:J", need(), "J"}, {"178 field:b.sr:La;", need(), "La;"}, {"178 field:i.si:I", need(), "I"},
		{"179 field:a.sx:I", need("I"), ""}, {"179 field:d.sl:J", need("J"), ""}, {"179 field:a.sr:La;", need(classA), ""},
		{"180 field:a.x:I", need(classA), "I"}, {"180 field:b.x:I", need(classB), "I"}, {"180 field:b.x:J", need(classB), "J"}, {"180 field:a.n:[I", need(classA), "[I"},
		{"181 field:a.x:I", need(classA, "I"), ""}, {"181 field:b.l:J", need(classB, "J"), ""}, {"181 field:b.r:La;", need(classB, classA), ""}, {"181 field:a.n:[I", need(classA, ints), ""},
		{"182 method:a.f:()V", need(classA), ""}, {"182 method:b.f:()V", need(classB), ""}, {"182 method:b.give:(IJLa;)I", need(classB, "I", "J", classA), "I"},
		{"182 method:a.long:()J", need(classA), "J"}, {"182 method:a.refs:([I)[La;", need(classA, ints), "[La;"}, {"182 method:a.only:()I", need(classA), "I"}, {"182 method:b.k:(ILi;)J", need(classB, "I", ifaceI), "J"},
		{"182 method:b.lack:()V", need(classB), ""}, {"182 method:String.length:()I", need(text), "I"}, {"182 method:String.charAt:(I)I", need(text, "I"), "I"},
		{"183 method:a.f:()V", need(classB), ""}, {"183 method:b.f:()V", need(classB), ""}, {"183 method:a.give:(IJLa;)I", need(classB, "I", "J", classA), "I"},
		{"184 method:a.sv:()V", need(), ""}, {"184 method:d.sf:(IJ)I", need("I", "J"), "I"}, {"184 method:ab.sp:()V", need(), ""},
		{"184 method:Sys.print:(I)V", need("I"), ""}, {"184 method:Sys.print:(J)V", need("J"), ""}, {"184 method:Sys.print:(LString;)V", need(text), ""},
		{"185 iface:i.h:()V", need(ifaceI), ""}, {"185 iface:j.h:()V", need(ifaceJ), ""}, {"185 iface:j.k:(ILi;)J", need(ifaceJ, "I", ifaceI), "J"}, {"185 iface:i.only:()I", need(ifaceI), "I"},
		{"187 class:a", need(), "La;"}, {"187 class:Object", need(), "LObject;"}, {"187 class:e2", need(), "Le2;"}, {"187 class:DepthFault", need(), "LDepthFault;"},
		{"188 10", need("I"), "[I"}, {"188 11", need("I"), "[J"},
		{"189 class:a", need("I"), "[La;"}, {"189 class:[I", need("I"), "[[I"}, {"189 class:[[[[[[[I", need("I"), "[[[[[[[[I"}, {"189 class:i", need("I"), "[Li;"}, {"189 class:String", need("I"), "[LString;"}, {"189 class:Sys", need("I"), "[LSys;"},
		{"190", need(anyArray), "I"},
		{"192 class:a", need(anyRef), "La;"}, {"192 class:i", need(anyRef), "Li;"}, {"192 class:[I", need(anyRef), "[I"}, {"192 class:[[[[[[[[La;", need(anyRef), "[[[[[[[[La;"}, {"192 class:Sys", need(anyRef), "LSys;"}, {"192 class:ab", need(anyRef), "Lab;"},
		{"193 class:a", need(anyRef), "I"}, {"193 class:i", need(anyRef), "I"}, {"193 class:[[[[[[[[I", need(anyRef), "I"},
	}
	for _, c := range []int{2, 3, 4, 5, 6, 7, 8} {
		rows = append(rows, tableRow{itoa(c), need(), "I"})
	}
	for _, c := range []int{96, 100, 104, 108, 112, 120, 122, 124, 126, 128, 130} {
		rows = append(rows, tableRow{itoa(c), need("I", "I"), "I"})
	}
	for _, c := range []int{97, 101, 105, 109, 113, 127, 129, 131} {
		rows = append(rows, tableRow{itoa(c), need("J", "J"), "J"})
	}
	for _, c := range []int{145, 146, 147} {
		rows = append(rows, tableRow{itoa(c), need("I"), "I"})
	}
	return rows
}

// doing is a method in which an instruction, at 3, finds these types; behind it stand a nop and an end.
func doing(places int, locals, stack, text string) subject {
	return static("()V", places, 6, "167 @0, "+text+", 0, 177", frame(0, "|"), frame(3, locals+"|"+stack))
}

// checkLeft: an instruction leaves just that.
func checkLeft(t *testing.T, s subject, want string) {
	t.Helper()
	states, e := check.Method(familyTree, s.class, s.method)
	if e != api.OK || len(states) != 4 || told(states[2]) != want || told(states[3]) != want {
		t.Errorf("%+v of %+v: %q, %v, want %q", s.method, s.class, allTold(states), e, want)
	}
	checkReference(t, familyTree, s)
}

// firsts is the first type that fits at each place.
func firsts(needs []string) []string {
	var l []string
	for _, n := range needs {
		l = append(l, strings.Fields(n)[0])
	}
	return l
}

func TestTable(t *testing.T) {
	for _, row := range tableRows() {
		stack := firsts(row.needs)
		left := types(row.left)
		places := max(len(stack), len(left))
		checkLeft(t, doing(places, localsOfRows, strings.Join(stack, ","), row.text), localsOfRows+"|"+row.left)
		// What lies below stays as it is.
		checkLeft(t, doing(places+2, localsOfRows, strings.Join(slices.Concat([]string{"J", "Li;"}, stack), ","), row.text),
			localsOfRows+"|"+strings.Join(slices.Concat([]string{"J", "Li;"}, left), ","))
		// There is no room for what is laid: none for all, or one place is missing.
		if len(left) > len(stack) {
			checkFault(t, stackError, doing(len(stack), localsOfRows, strings.Join(stack, ","), row.text))
			checkFault(t, stackError, doing(len(left)-1, localsOfRows, strings.Join(stack, ","), row.text))
		}
		// Too little, and a type in what there is that doesn't fit: what lies uppermost is looked at first.
		for n := 1; n <= len(stack); n++ {
			checkFault(t, stackError, doing(places, localsOfRows, strings.Join(stack[n:], ","), row.text))
		}
		checkEachPlace(t, row, places)
	}
}

// checkEachPlace tries each type at each place of a row.
func checkEachPlace(t *testing.T, row tableRow, places int) {
	t.Helper()
	for at, fitting := range row.needs {
		for _, typ := range alphabet {
			stack := firsts(row.needs)
			stack[at] = typ
			s := doing(places, localsOfRows, strings.Join(stack, ","), row.text)
			if slices.Contains(strings.Fields(fitting), typ) {
				checkTaken(t, s)
				continue
			}
			checkFault(t, typeError, s)
			// What lies below it isn't there: this one is met first.
			checkFault(t, typeError, doing(places, localsOfRows, strings.Join(stack[at:], ","), row.text))
		}
	}
}

// TestAllStacks: every code, with all stacks of up to three types of a few.
func TestAllStacks(t *testing.T) {
	few := strings.Fields("I J N La; Lb; LThrowable; [I [La;")
	stacks := []string{""}
	for _, a := range few {
		stacks = append(stacks, a)
		for _, b := range few {
			stacks = append(stacks, a+","+b)
			for _, c := range few {
				stacks = append(stacks, a+","+b+","+c)
			}
		}
	}
	operands := map[int][]string{16: {"1"}, 17: {"1"}, 19: {"long:1"}, 21: {"0"}, 22: {"1"}, 25: {"2"}, 54: {"1"}, 55: {"0"}, 58: {"4"}, 132: {"0 1"}, 188: {"10"}, 187: {"class:a"}, 189: {"class:b"}, 192: {"class:b"}, 193: {"class:b"},
		178: {"field:a.sx:I"}, 179: {"field:a.sr:La;"}, 180: {"field:a.x:I"}, 181: {"field:a.r:La;"},
		182: {"method:a.give:(IJLa;)I", "method:a.refs:([I)[La;"}, 183: {"method:a.f:()V"}, 184: {"method:a.sf:(IJ)I"}, 185: {"iface:j.k:(ILi;)J"}}
	for c := range words {
		for _, operand := range append(operands[c], map[bool][]string{true: {"@0"}, false: {""}}[c >= 153 && c <= 167 || c >= 198]...) {
			if operand == "" && operands[c] != nil {
				continue
			}
			s := doing(3, localsOfRows, "", itoa(c)+" "+operand)
			for _, stack := range stacks {
				s.method.Frames = []api.Frame{s.method.Frames[0], frame(3, localsOfRows+"|"+stack)}
				checkReference(t, familyTree, s)
			}
		}
	}
}

// TestKindsOfArrays: what is got out of arrays of several depths, and what may be put in.
func TestKindsOfArrays(t *testing.T) {
	for array, element := range map[string]string{
		"[[I": "[I", "[[[J": "[[J", "[La;": "La;", "[[La;": "[La;", "[[[[[[[[I": "[[[[[[[I", "[Li;": "Li;", "[LString;": "LString;", "N": "N",
	} {
		checkLeft(t, doing(2, "", array+",I", "50"), ",,,,,|"+element)
		checkLeft(t, doing(3, "", array+",I,N", "83"), ",,,,,|")
		checkLeft(t, doing(3, "", array+",I,Le;", "83"), ",,,,,|")
		checkLeft(t, doing(1, "", array, "190"), ",,,,,|I")
		// All are things, and fit where these are wanted.
		checkLeft(t, doing(1, "", array, "193 class:Object"), ",,,,,|I")
	}
	for _, array := range []string{"[I", "[J", "LObject;", "La;", "LString;"} {
		checkFault(t, typeError, doing(2, "", array+",I", "50"))
		checkFault(t, typeError, doing(3, "", array+",I,N", "83"))
	}
	for _, array := range []string{"[[I", "[[[I", "LObject;", "[J"} {
		checkFault(t, typeError, doing(2, "", array+",I", "46"))
		checkFault(t, typeError, doing(3, "", array+",I,I", "79"))
	}
	// A class of the name of an array: of which there is no element, too.
	own := of(0, "()V", 2, 1, "25 0, 190, 87, 25 0, 3, 50, 87, 177")
	for name, want := range map[string]api.Errno{"[I": typeError, "[[I": api.OK, "[Lz;": api.OK, "[La;": api.OK, "[V": typeError, "a": typeError} {
		own.class.Name = name
		if e := checkReference(t, familyTree, own); e != want {
			t.Errorf("%q: %v", name, e)
		}
	}
}

// TestLocals: each is pushed by its own instruction, and each may become another one.
func TestLocals(t *testing.T) {
	locals := []string{"I", "J", "N", "La;", "[I", ""}
	all := strings.Join(locals, ",")
	for code, kind := range map[string]string{"21": "I", "22": "J", "25": "N La; [I"} {
		for n, typ := range locals {
			s := doing(1, all, "", code+" "+itoa(n))
			if slices.Contains(strings.Fields(kind), typ) && typ != "" {
				checkLeft(t, s, all+"|"+typ)
				s.method.Stack = 0
				checkFault(t, stackError, s)
			} else {
				checkFault(t, typeError, s)
				// That it wouldn't have room is told behind.
				s.method.Stack = 0
				checkFault(t, typeError, s)
			}
		}
		for _, n := range []int{6, 7, 40, 127, 128, 255} {
			checkFault(t, stackError, doing(1, all, "", code+" "+itoa(n)))
		}
	}
	for code, kind := range map[string]string{"54": "I", "55": "J", "58": anyRef} {
		for n := range locals {
			for _, typ := range alphabet {
				s := doing(2, all, "Le;,"+typ, code+" "+itoa(n))
				if !slices.Contains(strings.Fields(kind), typ) {
					checkFault(t, typeError, s)
					continue
				}
				behind := slices.Clone(locals)
				behind[n] = typ
				checkLeft(t, s, strings.Join(behind, ",")+"|Le;")
			}
			checkFault(t, stackError, doing(2, all, "", code+" "+itoa(n)))
		}
		for _, n := range []int{6, 7, 40, 127, 128, 255} {
			fitting := strings.Fields(kind)[0]
			checkFault(t, stackError, doing(1, all, fitting, code+" "+itoa(n)))
			// What is popped is looked at first.
			checkFault(t, typeError, doing(1, all, map[string]string{"I": "J", "J": "N", "La;": "I"}[fitting], code+" "+itoa(n)))
		}
	}
}

// TestCount adds to an int, and changes no type.
func TestCount(t *testing.T) {
	for n, want := range []api.Errno{api.OK, typeError, typeError, typeError, typeError, typeError, stackError} {
		s := doing(0, localsOfRows, "", "132 "+itoa(n)+" -1")
		if want == api.OK {
			checkLeft(t, s, localsOfRows+"|")
		} else {
			checkFault(t, want, s)
		}
	}
	checkFault(t, stackError, doing(0, localsOfRows, "", "132 255 127"))
}

// TestComparisons: what leads pops what it compares.
func TestComparisons(t *testing.T) {
	needs := map[int][]string{167: {}, 165: {anyRef, anyRef}, 166: {anyRef, anyRef}, 198: {anyRef}, 199: {anyRef}}
	for c := 153; c <= 158; c++ {
		needs[c], needs[c+6] = []string{"I"}, []string{"I", "I"}
	}
	for c, places := range needs {
		row := tableRow{itoa(c) + " @6", places, ""}
		at := func(stack string) subject {
			s := doing(4, localsOfRows, stack, row.text)
			s.method.Frames = append(s.method.Frames, frame(6, localsOfRows+"|J,Li;"))
			return s
		}
		checkLeft(t, at(strings.Join(append([]string{"J", "Li;"}, firsts(places)...), ",")), localsOfRows+"|J,Li;")
		for at, fitting := range places {
			for _, typ := range alphabet {
				stack := firsts(places)
				stack[at] = typ
				s := doing(4, localsOfRows, strings.Join(stack, ","), row.text)
				s.method.Frames = append(s.method.Frames, frame(6, "|"))
				if slices.Contains(strings.Fields(fitting), typ) {
					checkTaken(t, s)
				} else {
					checkFault(t, typeError, s)
				}
			}
			short := doing(4, localsOfRows, strings.Join(firsts(places)[at+1:], ","), row.text)
			// Ahead of: no frame, where it leads to.
			checkFault(t, stackError, short)
		}
	}
}

// TestGivingBack: by the instruction of what the method gives back, whatever lies below.
func TestGivingBack(t *testing.T) {
	of := map[string]string{"I": "172", "J": "173", "La;": "176", "[I": "176", "LObject;": "176", "[[Li;": "176", "V": "177"}
	fit := map[string]string{"I": "I", "J": "J", "La;": classA, "[I": ints, "LObject;": anyRef, "[[Li;": "N", "V": anyType}
	for gives, right := range of {
		for _, code := range []string{"172", "173", "176", "177"} {
			for _, stack := range append([]string{""}, alphabet...) {
				s := static("()"+gives, 3, 0, "167 @0, "+code, frame(0, "|"), frame(3, "|"+stack))
				below := static("()"+gives, 3, 0, "167 @0, "+code, frame(0, "|"), frame(3, "|"+strings.TrimSuffix("J,N,"+stack, ",")))
				switch {
				case code != right:
					checkFault(t, typeError, s)
					checkFault(t, typeError, below)
				case slices.Contains(strings.Fields(fit[gives]), stack):
					checkTaken(t, s)
					checkTaken(t, below)
				case stack == "" && gives == "V":
					checkTaken(t, s)
				case stack == "":
					checkFault(t, stackError, s)
				default:
					checkFault(t, typeError, s)
					checkFault(t, typeError, below)
				}
			}
		}
	}
}

// TestThrowing takes throwables alone, and nothing.
func TestThrowing(t *testing.T) {
	for _, typ := range alphabet {
		s := static("()I", 3, 0, "167 @0, 191", frame(0, "|"), frame(3, "|J,"+typ))
		if slices.Contains(strings.Fields(throwable), typ) {
			checkTaken(t, s)
		} else {
			checkFault(t, typeError, s)
		}
	}
	checkFault(t, stackError, static("()I", 3, 0, "191"))
}

// TestTurning: what is doubled or turned about keeps its type, and needs room.
func TestTurning(t *testing.T) {
	for _, c := range []struct{ text, stack, left string }{
		{"89", "La;", "La;,La;"}, {"89", "I,N", "I,N,N"}, {"90", "La;,[I", "[I,La;,[I"}, {"90", "J,I,N", "J,N,I,N"}, {"95", "La;,[I", "[I,La;"}, {"95", "J,N,I", "J,I,N"}, {"87", "J,I", "J"},
	} {
		n := len(types(c.left))
		checkLeft(t, doing(max(n, len(types(c.stack))), "", c.stack, c.text), ",,,,,|"+c.left)
		if n > len(types(c.stack)) {
			checkFault(t, stackError, doing(n-1, "", c.stack, c.text))
		}
	}
	for _, c := range []string{"90", "95"} {
		checkFault(t, stackError, doing(20, "", "I", c))
		checkFault(t, stackError, doing(1, "", "I", c))
	}
	full := strings.Repeat(",I", 20)[1:]
	checkFault(t, stackError, doing(20, "", full, "89"))
	checkFault(t, stackError, doing(20, "", full, "90"))
	checkLeft(t, doing(20, "", full, "95"), ",,,,,|"+full)
}

// TestFullStack: on it each instruction that only pushes is refused.
func TestFullStack(t *testing.T) {
	full := strings.Repeat(",J", 20)[1:]
	for _, row := range tableRows() {
		if len(row.needs) == 0 && row.left != "" {
			checkFault(t, stackError, doing(20, localsOfRows, full, row.text))
			checkTaken(t, doing(20, localsOfRows, full[2:], row.text))
		}
	}
}
