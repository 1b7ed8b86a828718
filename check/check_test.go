package check_test

import (
	"bytes"
	"math"
	"slices"
	"strings"
	"testing"

	"reglet/api"
	"reglet/check"
	"reglet/kin"
)

func TestExamplesOfTheChapter(t *testing.T) {
	checkStates(t, static("()I", 1, 0, "8, 172"), "|", "|I")
	checkFault(t, typeError, static("()I", 1, 0, "8, 177"))
	checkFault(t, stackError, static("()I", 1, 0, "96, 172"))
	checkFault(t, frameError, static("()I", 1, 0, "8"))
}

// TestFirstState: with just as many locals as there are, with more, and with one too few.
func TestFirstState(t *testing.T) {
	for _, c := range []struct {
		flags int
		d     string
		want  string
		n     int
	}{
		{staticFlag, "()V", "", 0},
		{0, "()V", "Lb;", 1},
		{abstractFlag, "()V", "Lb;", 1},
		{^staticFlag, "()V", "Lb;", 1},
		{-1, "()V", "", 0},
		{staticFlag + 1, "()V", "", 0},
		{staticFlag, "(I)V", "I", 1},
		{staticFlag, "(J)V", "J", 1},
		{0, "(J)V", "Lb;,J", 2},
		{staticFlag, "(IJLa;[I[[Li;LObject;)V", "I,J,La;,[I,[[Li;,LObject;", 6},
		{0, "(IJLa;[I[[Li;LObject;)V", "Lb;,I,J,La;,[I,[[Li;,LObject;", 7},
		{staticFlag, "(" + twentyInts + ")V", strings.Repeat(",I", 20)[1:], 20},
		{0, "(" + twentyInts + ")V", "Lb;" + strings.Repeat(",I", 20), 21},
	} {
		checkStates(t, of(c.flags, c.d, 0, c.n, "177"), c.want+"|")
		checkStates(t, of(c.flags, c.d, 20, 40, "177"), c.want+strings.Repeat(",", min(40-c.n, 39))+"|")
		if c.n > 0 {
			checkFault(t, stackError, of(c.flags, c.d, 20, c.n-1, "177"))
			checkFault(t, stackError, of(c.flags, c.d, 20, 0, "177"))
		}
	}
}

// TestClassOfAnyName: the class's own type is told by its name, whether there is such a class or not.
func TestClassOfAnyName(t *testing.T) {
	for name, typ := range map[string]string{"": "L;", "a": "La;", "z": "Lz;", "La;": "LLa;;", "[I": "[I", "[Lz;": "[Lz;", "x y": "Lx y;"} {
		s := of(0, "()V", 1, 1, "25 0, 87, 177")
		s.class = api.Class{Name: name}
		checkStates(t, s, typ+"|", typ+"|"+typ, typ+"|")
	}
}

// TestLimitsOfStackAndLocals: both from 0 to their ends, and past them.
func TestLimitsOfStackAndLocals(t *testing.T) {
	for n := range 21 {
		checkTaken(t, static("()V", n, 0, strings.Repeat("1, ", n)+"177"))
		checkFault(t, stackError, static("()V", n, 0, strings.Repeat("1, ", n+1)+"177"))
	}
	for n := range 40 {
		checkTaken(t, static("()V", 1, n+1, "3, 54 "+itoa(n)+", 177"))
		checkFault(t, stackError, static("()V", 1, n, "3, 54 "+itoa(n)+", 177"))
	}
	for _, n := range []int{-1, -2, -20, math.MinInt, math.MinInt32, math.MaxInt, math.MaxInt32, 1 << 32} {
		checkFault(t, argError, static("()V", n, 0, "177"))
		checkFault(t, argError, static("()V", 0, n, "177"))
		checkFault(t, argError, static("()V", n, n, "177"))
	}
	for _, n := range []int{21, 22, 40, 41, 255} {
		checkFault(t, argError, static("()V", n, 40, "177"))
	}
	for _, n := range []int{41, 42, 255} {
		checkFault(t, argError, static("()V", 20, n, "177"))
	}
}

// TestDescriptorsThatAreRefused, ahead of the types in them.
func TestDescriptorsThatAreRefused(t *testing.T) {
	for _, d := range []string{"", "(", "()", "V", "I", "(V)V", "()VV", "(I", "()N", "(N)V", "()[V", "(" + twentyInts + "I)V", "(L;)V", "()Lz", "(Lz;)", "(Lz;)VV", "([[[[[[[[[I)V", " ()V", "()V "} {
		checkFault(t, descError, of(0, d, 1, 40, "177"))
		checkFault(t, descError, of(0, d, 1, 0, "177"))
	}
}

// TestTypesOfTheDescriptor must be known: of parameters, and of what is given back.
func TestTypesOfTheDescriptor(t *testing.T) {
	for _, d := range []string{"(Lz;)V", "(ILz;)V", "(Lz;I)V", "([Lz;)V", "([[[[[[[[Lz;)V", "()Lz;", "()[Lz;", "(I)Lz;", "(Lz;)Lz;", "(La/b;)V", "(LI;)V", "(Lobject;)V", "()LV;"} {
		checkFault(t, kinError, of(0, d, 1, 40, "177"))
		// What is wanted of locals comes behind.
		checkFault(t, kinError, of(0, d, 1, 0, "177"))
	}
	for _, d := range []string{"(La;)La;", "(Li;)[Lj;", "([[[[[[[[La;)LDepthFault;", "(LSys;LString;)LObject;"} {
		checkTaken(t, of(0, d, 1, 40, "1, 176"))
	}
}

// TestCodeOfEveryLength: what is cut off, or too long, isn't taken, whatever else is wrong.
func TestCodeOfEveryLength(t *testing.T) {
	checkFault(t, codeError, static("()V", 0, 0, "177").with(func(s *subject) { s.method.Code = nil }))
	for n := range 4000 {
		nops := make([]byte, n)
		s := static("()V", 0, 0, "177")
		s.method.Code = append(nops, 177)
		if states, e := check.Method(familyTree, s.class, s.method); e != api.OK || len(states) != n+1 {
			t.Fatalf("%d bytes: %d states, %v", n+1, len(states), e)
		}
		if n%100 > 1 && n < 3990 {
			continue
		}
		s.method.Code[n] = 0
		if _, e := check.Method(familyTree, s.class, s.method); e != frameError {
			t.Fatalf("%d bytes that don't end: %v", n+1, e)
		}
	}
	long := static("(", -1, -1, "177")
	long.method.Code = append(make([]byte, 4000), 177)
	checkFault(t, longError, long)
	long.method.Code = append(make([]byte, 4000), 177)[1:]
	checkFault(t, argError, long)
}

// ordinary has an instruction of each size, a loop, a way forward, and somebody who catches.
func ordinary() subject {
	return of(0, "(IJ)La;", 3, 5, "22 2, 136, 54 3, 132 3 -5, 21 3, 153 @23, 16 100, 17 -1000, 96, 87, 167 @5, 25 0, 176, 191",
		frame(5, "La;,I,J,I|"), frame(23, "La;,,,I|"), frame(26, ",,J|LThrowable;"),
	).rows(api.Row{From: 5, To: 23, At: 26, Class: "e"}, api.Row{From: 2, To: 23, At: 26})
}

func TestOrdinaryMethod(t *testing.T) {
	s := ordinary()
	// There local 2 isn't a long any more.
	checkFault(t, typeError, s.with(func(s *subject) { s.method.Rows[1].To = 26 }))
	checkStates(t, s,
		"Lb;,I,J,,|", "Lb;,I,J,,|J", "Lb;,I,J,,|I",
		"La;,I,J,I,|", "La;,I,J,I,|", "La;,I,J,I,|I",
		"La;,I,J,I,|", "La;,I,J,I,|I", "La;,I,J,I,|I,I", "La;,I,J,I,|I", "La;,I,J,I,|",
		"La;,,,I,|", "La;,,,I,|La;",
		",,J,,|LThrowable;")
	for n := range s.method.Code {
		cut := s.with(func(s *subject) { s.method.Code = s.method.Code[:n] })
		if e := checkReference(t, familyTree, cut); e == api.OK {
			t.Errorf("cut at %d it is taken", n)
		}
	}
	for at := range s.method.Code {
		for c := range 256 {
			checkReference(t, familyTree, s.with(func(s *subject) { s.method.Code[at] = byte(c) }))
		}
	}
}

// TestLastMustEnd: each code as the last one.
func TestLastMustEnd(t *testing.T) {
	for _, text := range []string{"0", "1", "3", "9", "19 int:1", "3, 54 0", "21 0", "187 class:a", "184 method:a.sv:()V", "132 0 1", "178 field:a.sx:I", "3, 87", "3, 188 10", "3, 153 @0", "1, 198 @0"} {
		checkFault(t, frameError, static("(I)V", 2, 1, text, frame(0, "I|")))
		checkTaken(t, static("(I)V", 2, 1, text+", 177", frame(0, "I|")))
		checkTaken(t, static("(I)V", 2, 1, text+", 167 @0", frame(0, "|")).with(func(s *subject) {
			s.method.Frames[0].Locals = []string{"I"}
			s.method.Code = slices.Concat(s.method.Code[:len(s.method.Code)-3], s.assembled("1, 191"))
		}))
	}
	checkFault(t, frameError, static("()V", 2, 1, "177, 0", frame(1, "|")))
	checkTaken(t, static("()V", 2, 1, "177, 177", frame(1, "|")))
}

// TestNilTree knows no type, and nothing fits in it but where anything may.
func TestNilTree(t *testing.T) {
	for _, c := range []struct {
		s subject
		e api.Errno
	}{
		{static("()V", 1, 1, "177"), api.OK},
		{of(0, "()V", 1, 1, "25 0, 87, 177"), api.OK},
		{of(0, "()V", 2, 1, "25 0, 58 0, 3, 9, 87, 87, 1, 1, 165 @13, 0, 0, 177", frame(13, "|")), api.OK},
		{of(0, "()V", 1, 1, "177", frame(0, "|")), api.OK},
		{of(0, "()V", 1, 2, "25 0, 190, 177").with(func(s *subject) { s.class.Name = "[I" }), api.OK},
		{of(0, "()V", 1, 2, "25 0, 190, 177"), typeError},
		{static("()I", 1, 1, "3, 172"), kinError},
		{static("(La;)V", 1, 1, "177"), kinError},
		{static("(LObject;)V", 1, 1, "177"), kinError},
		{static("()LObject;", 1, 1, "1, 176"), kinError},
		{static("()V", 1, 1, "177", frame(0, "I|")), kinError},
		{static("()V", 1, 1, "177", frame(0, "LObject;|")), kinError},
		{static("()V", 1, 1, "177", frame(0, "N|")), typeError},
		{static("()V", 1, 1, "1, 191"), typeError},
		{static("()V", 1, 1, "3, 54 0, 177"), typeError},
		{static("()V", 1, 1, "177").rows(api.Row{To: 1}), kinError},
		{static("()V", 1, 1, "178 field:a.sx:I, 177"), memberError},
		{static("()V", 1, 1, "184 method:Sys.exit:(I)V, 177"), memberError},
		{static("()V", 1, 1, "184 method:a.sv:()V, 177"), memberError},
		{static("()V", 1, 1, "187 class:Object, 177"), kinError},
		{static("()V", 1, 1, "1, 192 class:Object, 177"), kinError},
		{static("()V", 1, 1, "3, 189 class:Object, 177"), kinError},
		{static("()V", 1, 1, "177, 177"), frameError},
		{static("(", 1, 1, "177"), descError},
	} {
		if e := checkReference(t, nil, c.s); e != c.e {
			t.Errorf("%+v: %v, want %v", c.s.method, e, c.e)
		}
	}
	// A tree that New didn't make has no class either.
	if _, e := check.Method(&kin.Tree{}, api.Class{}, static("(La;)V", 1, 1, "177").method); e != kinError {
		t.Error(e)
	}
}

// TestZeroMethod has no code, of whatever class it is.
func TestZeroMethod(t *testing.T) {
	if states, e := check.Method(nil, api.Class{}, api.Method{}); e != codeError || states != nil {
		t.Error(states, e)
	}
	if states, e := check.Method(familyTree, api.Class{}, api.Method{Code: bytes.Repeat([]byte{0}, 4001)}); e != longError || states != nil {
		t.Error(states, e)
	}
}
