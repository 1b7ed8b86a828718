package link_test

import (
	"slices"
	"strings"
	"testing"

	"reglet/api"
)

// TestFaultsOfKin are told ahead of all others.
func TestFaultsOfKin(t *testing.T) {
	const wrong = "interface wrong: x Lz;, static q ()V"
	var many []string
	for range 41 {
		many = append(many, wrong)
	}
	checkFault(t, longError, told(many...))
	checkFault(t, nameError, told(wrong, "a;"))
	checkFault(t, nameError, []api.Class{{}})
	checkFault(t, twiceError, told(wrong, wrong))
	checkFault(t, twiceError, told(wrong, "Object"))
	checkFault(t, kinError, told("a < b: f ()V"))
	checkFault(t, kinError, told(wrong, "a < wrong"))
	checkFault(t, kinError, told(wrong, "a < Object b"))
	checkFault(t, circleError, told(wrong, "a < b", "b < a"))
	checkFault(t, circleError, told(wrong, "interface i < Object i"))
}

// TestFlagsThatDontFit, of fields and methods of interfaces, and of methods of any class.
func TestFlagsThatDontFit(t *testing.T) {
	for _, line := range []string{
		"interface i: x I",
		"interface i: static s I, static t J, x LObject;",
		"interface i: f ()V",
		"interface i: abstract h ()V, abstract k ()V, f ()V",
		"interface i: static f ()V",
		"interface i: static abstract f ()V",
		"a: static abstract f ()V",
		"abstract a: static abstract f ()V",
		"abstract a: f ()V, static g ()V, static abstract f ()I",
	} {
		checkFault(t, flagsError, told(line))
	}
	worldOf(t, told("interface i: static s I, abstract h ()V"))
	worldOf(t, told("abstract a: x I, static s I, f ()V, static g ()V, abstract h ()V"))
}

// TestOtherFlags: it is a bit that counts, whatever others there are.
func TestOtherFlags(t *testing.T) {
	const others = 0x7ffff9f7 &^ staticFlag
	l := told("interface i: static s I, abstract h ()V", "abstract a < Object i: static s J, x I, f ()V, static q ()V, abstract g ()V", "b < a: h ()V, g ()V")
	for i := range l {
		l[i].Flags |= others
		for j := range l[i].Fields {
			l[i].Fields[j].Flags |= others
		}
		for j := range l[i].Methods {
			l[i].Methods[j].Flags |= others
		}
	}
	w := worldOf(t, l)
	checkWords(t, w, "b", 1)
	checkSlots(t, w, "b", "a.f()V", "b.g()V", "b.h()V")
	checkSlots(t, w, "i")

	// An interface without the flag of an abstract class is one; and of a class no fewer bits will do.
	l = told("interface i: abstract h ()V")
	l[0].Flags = interfaceFlag
	worldOf(t, l)
	l[0].Methods = append(l[0].Methods, method(0, "f", "()V"))
	checkFault(t, flagsError, l)
	l[0].Flags, l[0].Methods = others, l[0].Methods[:1]
	checkFault(t, abstractError, l)
}

// TestFieldsOfUnknownTypes, be they of a class or of its objects.
func TestFieldsOfUnknownTypes(t *testing.T) {
	for _, d := range []string{"Lz;", "[Lz;", "[[[[[[[[[I", "V", "N", "", "a", "La", "[", "()V", "II"} {
		for _, l := range [][]api.Class{told("a: x I, y I"), told("abstract a: x J, static y I, z I"), told("interface a: static x I, static y I")} {
			l[0].Fields[1].Desc = d
			checkFault(t, kinError, l)
		}
	}
	worldOf(t, told("a: x La;, y Lb;, z [[Li;, static u [[[[[[[[Lb;, v LDepthFault;", "b", "interface i: static s Li;"))
}

// TestStaticBelowOneThatIsnt: the parent's name leads to the other one, in itself, a parent or an interface.
func TestStaticBelowOneThatIsnt(t *testing.T) {
	for _, lines := range [][]string{
		{"a: f ()V", "b < a: static f ()V"},
		{"abstract a: abstract f ()V", "abstract b < a: static f ()V"},
		{"a: f ()V", "m < a", "b < m: static g ()V, static f ()V"},
		{"interface i: abstract f ()V", "abstract a < Object i", "abstract b < a: static f ()V"},
		{"interface i: abstract f ()V", "interface j < Object i", "abstract a < Object j", "abstract m < a", "abstract b < m: static f ()V"},
	} {
		for _, order := range permuted(lines) {
			checkFault(t, overError, told(order...))
		}
	}
	worldOf(t, told("a: f ()V, f (I)V", "b < a: static f ()I, static g ()V, static f (J)V"))
	worldOf(t, told("a: static f ()V", "b < a: static f ()V", "c < b", "d < c: static f ()V"))
	// The parent's name leads to none here: it is the class itself that has the interface.
	worldOf(t, told("interface i: abstract f ()V", "abstract a < Object i: static f ()V"))
	// And here to the static one, that stands nearer than the interface.
	worldOf(t, told("interface i: abstract f ()V", "abstract a < Object i: static f ()V", "abstract b < a: static f ()V"))
}

// TestOneThatIsntBelowAStatic, whichever of the parents has it.
func TestOneThatIsntBelowAStatic(t *testing.T) {
	for _, lines := range [][]string{
		{"a: static f ()V", "b < a: f ()V"},
		{"a: static f ()V", "abstract b < a: g ()V, abstract f ()V"},
		{"a: static f ()V", "m < a", "b < m: f ()V"},
		{"a: g ()V, static f ()V", "m < a", "n < m", "b < n: g ()V, f ()V"},
		{"interface i: abstract f ()V", "abstract a < Object i: static f ()V", "b < a: f ()V"},
	} {
		for _, order := range permuted(lines) {
			checkFault(t, overError, told(order...))
		}
	}
	worldOf(t, told("a: static f ()V, static f (I)V", "b < a: f ()I, g ()V, f (J)V"))
	worldOf(t, told("a: static f ()V", "b: f ()V"))
}

// TestAbstractSlotsOfWholeClasses: a class that is neither abstract nor an interface must have a method with code in each slot.
func TestAbstractSlotsOfWholeClasses(t *testing.T) {
	for _, lines := range [][]string{
		{"a: abstract f ()V"},
		{"a: g ()V, abstract f ()V, h ()V"},
		{"abstract a: abstract f ()V", "b < a"},
		{"abstract a: abstract f ()V", "b < a: f ()I, f (I)V, g ()V"},
		{"a: f ()V", "b < a: abstract f ()V"},
		{"a: f ()V", "abstract b < a: abstract f ()V", "c < b"},
		{"interface i: abstract h ()V", "a < Object i"},
		{"interface i: abstract h ()V, abstract k ()V", "a < Object i: h ()V"},
		{"interface i: abstract h ()V", "interface j < Object i", "a < Object j: f ()V"},
		{"interface i: abstract h ()V", "abstract a < Object i", "b < a"},
		{"interface i: abstract h ()V", "a < Object i: static h ()V"},
	} {
		for _, order := range permuted(lines) {
			checkFault(t, abstractError, told(order...))
		}
	}
	worldOf(t, told("interface i: abstract h ()V", "interface j < Object i: abstract h ()V, abstract f ()V", "abstract a < Object j", "b < a: f ()V, h ()V"))
}

// A flaw is a method that check doesn't take, and its error.
type flaw struct {
	e      api.Errno
	method api.Method
}

// flaws are methods of a class with a constant 1 that is an int, and a constant 2: its field x, of an int.
func flaws() []flaw {
	static := func(d string, code ...byte) api.Method {
		return api.Method{Flags: staticFlag, Name: "wrong", Desc: d, Stack: 1, Locals: 1, Code: code}
	}
	deep, framed, row := static("()V", 177), static("()V", 177), static("()V", 177)
	deep.Stack = 21
	framed.Frames = []api.Frame{{Pc: 1}}
	row.Rows = []api.Row{{From: 0, To: 1, At: 1}}
	return []flaw{
		{codeError, static("()V", 254)},
		{codeError, static("()V")},
		{placeError, static("()V", 167, 0, 9)},
		{argError, deep},
		{descError, static("()", 177)},
		{descError, static("", 177)},
		{kinError, static("(Lz;)V", 177)},
		{kinError, static("()Lz;", 1, 176)},
		{stackError, static("(II)V", 177)},
		{stackError, static("()V", 3, 3, 177)},
		{frameError, framed},
		{frameError, static("()V", 3)},
		{placeError, row},
		{typeError, static("()V", 3, 172)},
		{constError, static("()V", 187, 0, 1, 177)},
		{memberError, static("()V", 178, 0, 2, 177)},
	}
}

// flawed is a class with that method behind a good one.
func flawed(name string, m api.Method) api.Class {
	return api.Class{
		Name: name, Super: "Object", Pool: []api.Const{{}, {Kind: api.ConstInt}, {Kind: api.ConstField, Text: name, Name: "x", Desc: "I"}},
		Fields: []api.Field{{Name: "x", Desc: "I"}}, Methods: []api.Method{method(0, "good", "()V"), m},
	}
}

// TestFaultsOfCheck: of each method that isn't abstract.
func TestFaultsOfCheck(t *testing.T) {
	for _, f := range flaws() {
		checkFault(t, f.e, []api.Class{flawed("a", f.method)})
		checkFault(t, f.e, append(told("b < a: f ()V", "interface i: abstract h ()V"), flawed("a", f.method)))
		m := f.method
		m.Flags = abstractFlag
		c := flawed("a", m)
		c.Flags = abstractFlag
		worldOf(t, []api.Class{c})
	}
}

// TestFirstFaultOfCheck: by the order of the classes as they are told, whoever stands above whom, and of the methods in them.
func TestFirstFaultOfCheck(t *testing.T) {
	all := flaws()
	for i, first := range all {
		second := all[(i+5)%len(all)]
		a, b := flawed("a", first.method), flawed("b", second.method)
		checkFault(t, first.e, []api.Class{a, b})
		checkFault(t, second.e, []api.Class{b, a})
		a.Super = "b"
		a.Methods[1].Name = "other"
		checkFault(t, first.e, []api.Class{a, b})
		checkFault(t, second.e, []api.Class{b, a})
		second.method.Name = "other"
		a = flawed("a", first.method)
		a.Methods = append(a.Methods, second.method)
		checkFault(t, first.e, []api.Class{a})
		slices.Reverse(a.Methods)
		checkFault(t, second.e, []api.Class{a})
	}
}

// TestCheckIsTheLast: whatever is wrong with members is told ahead of code that isn't taken, in whatever class.
func TestCheckIsTheLast(t *testing.T) {
	wrong := flawed("wrong", api.Method{Flags: staticFlag, Name: "f", Desc: "()V", Code: []byte{254}})
	for line, e := range map[string]api.Errno{
		"interface i: x I":           flagsError,
		"a: x Lz;":                   kinError,
		"a < wrong: f ()V":           overError,
		"a < wrong: static good ()V": overError,
		"a: abstract f ()V":          abstractError,
	} {
		l := append(told(line), wrong)
		checkFault(t, e, l)
		slices.Reverse(l)
		checkFault(t, e, l)
	}
}

// TestFirstFaultOfAClass: flags, then fields' types, then methods under those of the parents, then slots.
func TestFirstFaultOfAClass(t *testing.T) {
	const above = "above: static f ()V, g ()V"
	checkFault(t, flagsError, told(above, "a < above: x Lz;, f ()V, static g ()V, abstract h ()V, static abstract h ()V"))
	checkFault(t, kinError, told(above, "a < above: x Lz;, f ()V, static g ()V, abstract h ()V"))
	checkFault(t, overError, told(above, "a < above: x I, f ()V, static g ()V, abstract h ()V"))
	checkFault(t, overError, told(above, "a < above: x I, static g ()V, abstract h ()V"))
	checkFault(t, overError, told(above, "a < above: x I, f ()V, abstract h ()V"))
	checkFault(t, abstractError, told(above, "a < above: x I, abstract h ()V"))
	checkFault(t, flagsError, told("interface i: static x Lz;, y I"))
	checkFault(t, flagsError, told("interface i: static x Lz;, f ()V"))
	checkFault(t, kinError, told("interface i: static x Lz;, abstract f ()V"))
}

// TestFirstFaultOfClasses: class by class as they are told, but each parent ahead of who stands below it.
func TestFirstFaultOfClasses(t *testing.T) {
	for _, row := range []struct {
		e     api.Errno
		lines string
	}{
		{flagsError, "a: static abstract f ()V; b: x Lz;"},
		{kinError, "b: x Lz;; a: static abstract f ()V"},
		{abstractError, "c: abstract h ()V; b: x Lz;; a: static abstract f ()V"},
		// A parent goes ahead, with its own parent, even if it is told behind.
		{flagsError, "b < a: x Lz;; a: static abstract f ()V"},
		{kinError, "a: x Lz;; b < a: static abstract f ()V"},
		{flagsError, "c < b: abstract h ()V; b < a: x Lz;; a: static abstract f ()V"},
		{kinError, "c < b: abstract h ()V; a; b < a: x Lz;"},
		{flagsError, "c < b; d: x Lz;; b < a; e: abstract h ()V; a: static abstract f ()V"},
		// It goes ahead of who stands below it, not of those ahead of that one.
		{kinError, "d: x Lz;; c < b; b < a; a: static abstract f ()V"},
		{abstractError, "c < a: abstract h ()V; d: x Lz;; a"},
		// An interface is no parent: it is looked at in its own place.
		{kinError, "abstract a < Object i: x Lz;; interface i: y I"},
		{flagsError, "interface i: y I; abstract a < Object i: x Lz;"},
		{abstractError, "a < Object i; interface i: y I, abstract h ()V"},
		{abstractError, "a < Object i; interface i: static abstract h ()V"},
		{flagsError, "a < Object i; interface i: static h ()V"},
		{kinError, "interface j < Object i: static x Lz;; interface i: y I"},
	} {
		checkFault(t, row.e, told(strings.Split(row.lines, "; ")...))
	}
}
