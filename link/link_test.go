package link_test

import (
	"slices"
	"strings"
	"testing"

	"reglet/api"
	"reglet/link"
)

// ownNames are the machine's own classes by their numbers.
const ownNames = "Object String Sys Throwable Exception NullFault ZeroFault BoundsFault SizeFault CastFault StoreFault MemoryFault DepthFault"

// ownMethodTexts are the machine's own methods by their numbers: String's stand ahead of those of Sys, as their classes do.
func ownMethodTexts() []string {
	return []string{"String.length()I", "String.charAt(I)I", "Sys.print(I)V", "Sys.print(J)V", "Sys.print(LString;)V", "Sys.exit(I)V"}
}

func TestExampleOfTheChapter(t *testing.T) {
	w := worldOf(t, told("a: x I, f ()V", "b < a: y J, f ()V, g ()V"))
	checkWords(t, w, "b", 1, 2)
	checkWord(t, w, "b", "x", "I", 0)
	checkWord(t, w, "b", "y", "J", 1)
	checkSlots(t, w, "b", "b.f()V", "b.g()V")
	checkWords(t, w, "a", 1)
	checkSlots(t, w, "a", "a.f()V")
}

// TestNoClasses: the machine's own are there.
func TestNoClasses(t *testing.T) {
	for _, l := range [][]api.Class{nil, {}} {
		w := worldOf(t, l)
		if w.Classes() != ownClasses || w.Methods() != ownMethods || len(w.Statics()) != 0 {
			t.Errorf("%d classes, %d methods, statics %v", w.Classes(), w.Methods(), w.Statics())
		}
		supers := []int{-1, 0, 0, 0, 3, 4, 4, 4, 4, 4, 4, 3, 3}
		for id, name := range strings.Fields(ownNames) {
			info, there := w.Info(id)
			if w.Class(name) != id || !there || info.Name != name || info.Super != supers[id] || len(info.Words) != 0 {
				t.Errorf("Class(%q) = %d, Info(%d) = %+v, %v", name, w.Class(name), id, info, there)
			}
			if name != "String" {
				checkSlots(t, w, name)
			}
		}
		checkSlots(t, w, "String", "String.length()I", "String.charAt(I)I")
	}
}

// TestOneClass: it stands behind the machine's own, and so do its methods.
func TestOneClass(t *testing.T) {
	w := worldOf(t, told("a: x J, static s I, f ()V"))
	if w.Classes() != ownClasses+1 || w.Methods() != ownMethods+1 || w.Class("a") != ownClasses || !slices.Equal(w.Statics(), []int{1}) {
		t.Errorf("%d classes, %d methods, Class(a) = %d, statics %v", w.Classes(), w.Methods(), w.Class("a"), w.Statics())
	}
	if info := infoOf(t, w, "a"); info.Super != 0 {
		t.Errorf("%+v", info)
	}
	checkFind(t, w, "a", "f", "()V", "a.f()V")
	if n := w.Find("a", "f", "()V"); n != ownMethods {
		t.Errorf("f has the number %d", n)
	}
}

// TestMostClasses: as many as there may be, each below the one ahead, and each with a word and a slot of its own.
func TestMostClasses(t *testing.T) {
	var lines []string
	parent := "Object"
	for _, letter := range "abcdefghijklmnopqrstuvwxyzABCDEFGHIJKLMN" {
		name := "c" + string(letter)
		lines = append(lines, name+" < "+parent+": x"+name+" I, f"+name+" ()V")
		parent = name
	}
	slices.Reverse(lines)
	w := worldOf(t, told(lines...))
	if w.Classes() != ownClasses+40 || w.Class("cN") != ownClasses || w.Class("ca") != ownClasses+39 {
		t.Errorf("%d classes, from %d to %d", w.Classes(), w.Class("cN"), w.Class("ca"))
	}
	if info := infoOf(t, w, "cN"); len(info.Words) != 40 || len(info.Slots) != 40 || len(info.Names) != 40 {
		t.Errorf("%+v", info)
	}
	checkWord(t, w, "cN", "xca", "I", 0)
	checkWord(t, w, "cN", "xcN", "I", 39)
	if w.Slot("cN", "fcb", "()V") != 1 || w.Slot("cb", "fcc", "()V") != -1 {
		t.Errorf("%d, %d", w.Slot("cN", "fcb", "()V"), w.Slot("cb", "fcc", "()V"))
	}
}

// permuted are all orders of a list.
func permuted[T any](l []T) [][]T {
	if len(l) == 0 {
		return [][]T{nil}
	}
	var all [][]T
	for i := range l {
		rest := slices.Delete(slices.Clone(l), i, i+1)
		for _, order := range permuted(rest) {
			all = append(all, append([]T{l[i]}, order...))
		}
	}
	return all
}

// TestAnyOrder: numbers are by the order in which classes are told, words and slots are the same in all orders.
func TestAnyOrder(t *testing.T) {
	lines := []string{
		"interface i: static n LString;, abstract h ()V, abstract f ()V",
		"abstract a < Object i: x I, static s J, g ()I",
		"b < a: y [I, f ()V, h ()V, static q ()J",
		"c < b: static s I, x J, h ()V",
		"d < ZeroFault: z J, g ()I",
	}
	counts := map[byte]int{'i': 2, 'a': 1, 'b': 3, 'c': 1, 'd': 1}
	kinds := map[byte][]int{'i': {3}, 'a': {2}, 'c': {1}}
	for _, order := range permuted(lines) {
		w := worldOf(t, told(order...))
		checkWords(t, w, "c", 1, 3, 2)
		checkSlots(t, w, "c", "a.g()I", "c.h()V", "b.f()V")
		checkSlots(t, w, "b", "a.g()I", "b.h()V", "b.f()V")
		checkSlots(t, w, "d", "d.g()I")
		methods, statics := ownMethods, []int(nil)
		for place, l := range told(order...) {
			if n := w.Class(l.Name); n != ownClasses+place {
				t.Errorf("Class(%q) = %d, want %d", l.Name, n, ownClasses+place)
			}
			if n := w.Find(l.Name, l.Methods[0].Name, l.Methods[0].Desc); n != methods {
				t.Errorf("the first of %q has the number %d, want %d", l.Name, n, methods)
			}
			methods += counts[l.Name[0]]
			statics = append(statics, kinds[l.Name[0]]...)
		}
		if w.Methods() != methods || !slices.Equal(w.Statics(), statics) {
			t.Errorf("%d methods, statics %v, want %v", w.Methods(), w.Statics(), statics)
		}
	}
}

// TestMethodsAreNumbered class by class, in the order of Names; the machine's own are the first.
func TestMethodsAreNumbered(t *testing.T) {
	w := worldOf(t, told("b < a: g ()V, f ()V", "interface i: abstract h (J)I", "abstract a < Object i: static q ()J, abstract f ()V, f (I)V, h (J)I"))
	want := append(ownMethodTexts(), "b.g()V", "b.f()V", "i.h(J)I", "a.q()J", "a.f()V", "a.f(I)V", "a.h(J)I")
	if w.Methods() != len(want) {
		t.Errorf("%d methods, want %d", w.Methods(), len(want))
	}
	natives := []int{4, 5, 0, 1, 2, 3}
	for number, text := range want {
		known, m, there := w.Method(number)
		native := -1
		if number < ownMethods {
			native = natives[number]
		}
		wanted := api.Known{Class: known.Class, Name: m.Name, Desc: m.Desc, Static: m.Flags&staticFlag != 0, Native: native, Abstract: m.Flags&abstractFlag != 0}
		if methodText(w, number) != text || known != wanted || !there {
			t.Errorf("Method(%d) = %+v, %+v, %v, want %s", number, known, m, there, text)
		}
		if got := w.Find(known.Class, known.Name, known.Desc); got != number {
			t.Errorf("Find leads to %d, not to %s at %d", got, text, number)
		}
	}
	static, abstract := []int{2, 3, 4, 5, 9}, []int{8, 10}
	for number := range w.Methods() {
		known, _, _ := w.Method(number)
		if known.Static != slices.Contains(static, number) || known.Abstract != slices.Contains(abstract, number) {
			t.Errorf("%d: %+v", number, known)
		}
	}
}

// TestMethodIsAsItsClassHasIt: with its code, rows and frames.
func TestMethodIsAsItsClassHasIt(t *testing.T) {
	for _, m := range []api.Method{full(), method(staticFlag, "q", "(J)J"), method(abstractFlag, "h", "(LString;)[I")} {
		c := told("abstract a")[0]
		c.Methods = []api.Method{m}
		w := worldOf(t, []api.Class{c})
		known, got, there := w.Method(ownMethods)
		if !alike(got, m) || !there || known.Class != "a" {
			t.Errorf("%+v, %+v, %v, want %+v", known, got, there, m)
		}
	}
	w := worldOf(t, nil)
	if _, m, _ := w.Method(5); !alike(m, api.Method{Flags: staticFlag, Name: "exit", Desc: "(I)V"}) {
		t.Errorf("%+v", m)
	}
}

// full is a method that has all that a method can have.
func full() api.Method {
	return api.Method{
		Name: "full", Desc: "(I)I", Stack: 2, Locals: 2, Code: []byte{21, 1, 153, 0, 5, 4, 172, 3, 172, 87, 3, 172},
		Rows:   []api.Row{{From: 0, To: 2, At: 9}, {From: 5, To: 7, At: 9, Class: "ZeroFault"}},
		Frames: []api.Frame{{Pc: 7, Locals: []string{"La;", "I"}}, {Pc: 9, Locals: []string{"La;"}, Stack: []string{"LThrowable;"}}},
	}
}

// TestStatics are those of all classes, those of interfaces too, and of each kind.
func TestStatics(t *testing.T) {
	w := worldOf(t, told("b < a: static s J, y I", "interface i: static r [J, static s I", "a < Object i: static s I, x J, static u Lb;, static v LObject;"))
	if got, want := w.Statics(), []int{2, 3, 1, 1, 3, 3}; !slices.Equal(got, want) {
		t.Errorf("%v, want %v", got, want)
	}
	checkWord(t, w, "b", "s", "J", 0)
	checkWord(t, w, "i", "r", "[J", 1)
	checkWord(t, w, "i", "s", "I", 2)
	checkWord(t, w, "a", "s", "I", 3)
	checkWord(t, w, "b", "s", "I", 3)
	checkWord(t, w, "b", "u", "Lb;", 4)
	checkWord(t, w, "a", "v", "LObject;", 5)
	// Fields aren't looked for in the interfaces above, nor below.
	checkWord(t, w, "a", "r", "[J", -1)
	checkWord(t, w, "a", "s", "J", -1)
	// The words aren't counted among the statics.
	checkWord(t, w, "a", "x", "J", 0)
	checkWord(t, w, "b", "x", "J", 0)
	checkWord(t, w, "b", "y", "I", 1)
}

// TestWords: one for each field that is none of a class, a parent's first, and each of its kind.
func TestWords(t *testing.T) {
	w := worldOf(t, told(
		"none", "below < none: x J", "lowest < below",
		"all: a I, b J, c LString;, static s I, d [I, e [[J, f [Lall;, g Lnone;",
		"again < all: a I, h J, static b J, b J",
		"fault < Throwable: x I",
	))
	checkWords(t, w, "none")
	checkWords(t, w, "below", 2)
	checkWords(t, w, "lowest", 2)
	checkWords(t, w, "all", 1, 2, 3, 3, 3, 3, 3)
	checkWords(t, w, "again", 1, 2, 3, 3, 3, 3, 3, 1, 2, 2)
	checkWords(t, w, "fault", 1)
	checkWord(t, w, "lowest", "x", "J", 0)
	checkWord(t, w, "again", "c", "LString;", 2)
	checkWord(t, w, "again", "g", "Lnone;", 6)
	// A field of a parent's name has a word of its own; by the parent's name the parent's is meant.
	checkWord(t, w, "again", "a", "I", 7)
	checkWord(t, w, "all", "a", "I", 0)
	checkWord(t, w, "again", "h", "J", 8)
}

// TestStaticAboveAWord, and below one: each class's name leads to what it has itself.
func TestStaticAboveAWord(t *testing.T) {
	w := worldOf(t, told("a: x I, static y I", "b < a: static x I, y I", "c < b"))
	checkWords(t, w, "c", 1, 1)
	checkWord(t, w, "a", "x", "I", 0)
	checkWord(t, w, "a", "y", "I", 0)
	for _, class := range []string{"b", "c"} {
		checkWord(t, w, class, "x", "I", 1)
		checkWord(t, w, class, "y", "I", 1)
	}
}

// TestNothingLeadsThere: no such class, no such name, another descriptor, or below.
func TestNothingLeadsThere(t *testing.T) {
	w := worldOf(t, told("a: x I, f ()V", "b < a: y I, g ()V"))
	for _, class := range []string{"", "absent", "La;", "A", "a ", "[a"} {
		if w.Class(class) != -1 || w.Find(class, "f", "()V") != -1 || w.Slot(class, "f", "()V") != -1 || w.Word(class, "x", "I") != -1 {
			t.Errorf("%q: %d, %d, %d, %d", class, w.Class(class), w.Find(class, "f", "()V"), w.Slot(class, "f", "()V"), w.Word(class, "x", "I"))
		}
	}
	for _, m := range [][2]string{{"f", "()I"}, {"f", ""}, {"", "()V"}, {"F", "()V"}, {"f()V", ""}, {"x", "I"}, {"g", "()V"}} {
		if w.Find("a", m[0], m[1]) != -1 || w.Slot("a", m[0], m[1]) != -1 {
			t.Errorf("%q: %d, %d", m, w.Find("a", m[0], m[1]), w.Slot("a", m[0], m[1]))
		}
	}
	for _, f := range [][2]string{{"x", "J"}, {"x", ""}, {"", "I"}, {"xI", ""}, {"f", "()V"}, {"y", "I"}} {
		checkWord(t, w, "a", f[0], f[1], -1)
	}
}

// TestFind: in the class itself, a parent, or an interface; static ones too, and the machine's own.
func TestFind(t *testing.T) {
	w := worldOf(t, told("abstract a < Object i: f ()V, static q ()V", "abstract b < a: g ()V, f ()V", "interface i < Object j: abstract h ()V", "interface j: abstract h ()V, abstract k ()V"))
	for _, class := range []string{"a", "b"} {
		checkFind(t, w, class, "f", "()V", class+".f()V")
		checkFind(t, w, class, "q", "()V", "a.q()V")
		checkFind(t, w, class, "h", "()V", "i.h()V")
		checkFind(t, w, class, "k", "()V", "j.k()V")
	}
	checkFind(t, w, "a", "g", "()V", "none")
	checkFind(t, w, "b", "g", "()V", "b.g()V")
	checkFind(t, w, "i", "h", "()V", "i.h()V")
	checkFind(t, w, "i", "k", "()V", "j.k()V")
	checkFind(t, w, "j", "h", "()V", "j.h()V")
	checkFind(t, w, "i", "f", "()V", "none")
	checkFind(t, w, "Sys", "print", "(J)V", "Sys.print(J)V")
	checkFind(t, w, "String", "length", "()I", "String.length()I")
	checkFind(t, w, "Object", "length", "()I", "none")
}

// TestNumbersThatArent: below 0, the last, and above it.
func TestNumbersThatArent(t *testing.T) {
	const least, most = -1 << 63, 1<<63 - 1
	w := worldOf(t, told("a: f ()V", "b < a: g ()V"))
	for _, id := range []int{least, -2, -1, ownClasses + 2, ownClasses + 3, 1 << 32, most} {
		if info, there := w.Info(id); there || info.Name != "" || info.Super != 0 || info.Words != nil || info.Slots != nil || info.Names != nil {
			t.Errorf("Info(%d) = %+v, %v", id, info, there)
		}
	}
	for _, id := range []int{least, -2, -1, ownMethods + 2, ownMethods + 3, 1 << 32, most} {
		if known, m, there := w.Method(id); there || known != (api.Known{}) || !alike(m, api.Method{}) {
			t.Errorf("Method(%d) = %+v, %+v, %v", id, known, m, there)
		}
	}
	if info, there := w.Info(ownClasses + 1); !there || info.Name != "b" || info.Super != ownClasses {
		t.Errorf("the last class: %+v, %v", info, there)
	}
	if methodText(w, ownMethods+1) != "b.g()V" || methodText(w, 0) != "String.length()I" {
		t.Errorf("the last method is %s, the first one %s", methodText(w, ownMethods+1), methodText(w, 0))
	}
	if info, there := w.Info(0); !there || info.Name != "Object" || info.Super != -1 {
		t.Errorf("the first class: %+v, %v", info, there)
	}
}

func TestNilWorld(t *testing.T) {
	var w *link.World
	if w.Tree() != nil || w.Classes() != 0 || w.Methods() != 0 || w.Statics() != nil {
		t.Errorf("%v, %d, %d, %v", w.Tree(), w.Classes(), w.Methods(), w.Statics())
	}
	for _, class := range []string{"", "Object", "String", "a"} {
		if w.Class(class) != -1 || w.Find(class, "length", "()I") != -1 || w.Slot(class, "length", "()I") != -1 || w.Word(class, "x", "I") != -1 {
			t.Errorf("%q: %d, %d, %d, %d", class, w.Class(class), w.Find(class, "length", "()I"), w.Slot(class, "length", "()I"), w.Word(class, "x", "I"))
		}
	}
	for _, id := range []int{-1, 0, 1} {
		info, there := w.Info(id)
		known, m, thereToo := w.Method(id)
		if there || thereToo || info.Name != "" || info.Super != 0 || info.Words != nil || info.Slots != nil || info.Names != nil || known != (api.Known{}) || !alike(m, api.Method{}) {
			t.Errorf("%d: %+v, %v, %+v, %+v, %v", id, info, there, known, m, thereToo)
		}
	}
}

// TestTree is layer 7's of the same classes.
func TestTree(t *testing.T) {
	w := worldOf(t, told("b < a: f ()V", "a: x I"))
	tree := w.Tree()
	if !slices.Equal(tree.Names(), append(strings.Fields(ownNames), "b", "a")) || !slices.Equal(tree.Above("b"), []string{"Object", "a", "b"}) {
		t.Errorf("%q, %q", tree.Names(), tree.Above("b"))
	}
	if owner, _, there := tree.Field("b", "x", "I"); owner != "a" || !there {
		t.Errorf("%q, %v", owner, there)
	}
}
