package link_test

import "testing"

// TestParentsSlots: a method of the parent's name and descriptor is taken anew, all others get slots of their own behind.
func TestParentsSlots(t *testing.T) {
	w := worldOf(t, told(
		"a: f ()V, g ()V, f (I)V",
		"b < a: h ()V, g ()V, f ()I, F ()V, f (J)V",
		"c < b",
		"d < c: f ()V, f (J)V, g (I)V, g ()V",
	))
	checkSlots(t, w, "a", "a.f()V", "a.g()V", "a.f(I)V")
	below := []string{"a.f()V", "b.g()V", "a.f(I)V", "b.h()V", "b.f()I", "b.F()V", "b.f(J)V"}
	checkSlots(t, w, "b", below...)
	checkSlots(t, w, "c", below...)
	checkSlots(t, w, "d", "d.f()V", "d.g()V", "a.f(I)V", "b.h()V", "b.f()I", "b.F()V", "d.f(J)V", "d.g(I)V")
}

// TestBrothers: what one class has below a parent, another one below it hasn't.
func TestBrothers(t *testing.T) {
	w := worldOf(t, told("a: x I, f ()V", "b < a: y J, g ()V, f ()V", "c < a: z LObject;, h ()V", "d < a: f ()V, g ()V"))
	checkSlots(t, w, "a", "a.f()V")
	checkSlots(t, w, "b", "b.f()V", "b.g()V")
	checkSlots(t, w, "c", "a.f()V", "c.h()V")
	checkSlots(t, w, "d", "d.f()V", "d.g()V")
	checkWords(t, w, "a", 1)
	checkWords(t, w, "b", 1, 2)
	checkWords(t, w, "c", 1, 3)
	checkWords(t, w, "d", 1)
}

// TestAbstractSlots: an abstract method is taken, and taken back.
func TestAbstractSlots(t *testing.T) {
	w := worldOf(t, told("abstract a: abstract f ()V, g ()V", "b < a: f ()V", "abstract c < b: abstract f ()V, abstract g ()V", "d < c: g ()V, f ()V"))
	checkSlots(t, w, "a", "a.f()V", "a.g()V")
	checkSlots(t, w, "b", "b.f()V", "a.g()V")
	checkSlots(t, w, "c", "c.f()V", "c.g()V")
	checkSlots(t, w, "d", "d.f()V", "d.g()V")
}

// TestStaticMethodsHaveNoSlots, be they alone or beside others.
func TestStaticMethodsHaveNoSlots(t *testing.T) {
	w := worldOf(t, told("a: static f ()V, g ()V, static g ()I, static h ()I", "b < a: static f ()V, i ()V", "c: static f ()V"))
	checkSlots(t, w, "a", "a.g()V")
	checkSlots(t, w, "b", "a.g()V", "b.i()V")
	checkSlots(t, w, "c")
	for _, class := range []string{"a", "b", "c"} {
		if n := w.Slot(class, "f", "()V"); n != -1 {
			t.Errorf("Slot(%q) = %d", class, n)
		}
	}
	checkSlots(t, w, "Sys")
}

// TestInterfacesHaveNoSlots, neither for their own methods nor for those of interfaces above; and no words.
func TestInterfacesHaveNoSlots(t *testing.T) {
	w := worldOf(t, told("interface i: abstract h ()V, static s I", "interface j < Object i: abstract k ()V", "interface none"))
	for _, class := range []string{"i", "j", "none"} {
		checkSlots(t, w, class)
		checkWords(t, w, class)
		if w.Slot(class, "h", "()V") != -1 || w.Slot(class, "k", "()V") != -1 {
			t.Errorf("%q: %d, %d", class, w.Slot(class, "h", "()V"), w.Slot(class, "k", "()V"))
		}
	}
}

// TestSlotsForInterfaces: each method gets one behind the class's own, if there is none.
func TestSlotsForInterfaces(t *testing.T) {
	w := worldOf(t, told(
		"interface i: abstract h ()V, abstract k ()I",
		"abstract a < Object i: f ()V",
		"abstract b < a: h ()V",
		"c < b: g ()V, k ()I",
		"d < Object i: k ()I, f ()V, h ()V",
		"above: h ()V, k ()I, f ()V",
		"e < above i",
		"abstract f < d i: abstract k ()I",
	))
	checkSlots(t, w, "a", "a.f()V", "i.h()V", "i.k()I")
	checkSlots(t, w, "b", "a.f()V", "b.h()V", "i.k()I")
	checkSlots(t, w, "c", "a.f()V", "b.h()V", "c.k()I", "c.g()V")
	checkSlots(t, w, "d", "d.k()I", "d.f()V", "d.h()V")
	checkSlots(t, w, "e", "above.h()V", "above.k()I", "above.f()V")
	checkSlots(t, w, "f", "f.k()I", "d.f()V", "d.h()V")
}

// TestOrderOfInterfaces is that of their names' bytes, however they are told and in whatever way they stand above.
func TestOrderOfInterfaces(t *testing.T) {
	w := worldOf(t, told(
		"interface z: abstract h ()V, abstract m ()V",
		"interface B: abstract l ()V, abstract h ()V",
		"interface b < Object z: abstract k ()V, abstract l (I)V, abstract h ()V",
		"abstract a < Object z b B",
		"abstract c < Object b",
		"abstract d < c z B: k ()V",
		"abstract y: h ()V",
		"abstract x < y b",
	))
	checkSlots(t, w, "a", "B.l()V", "B.h()V", "b.k()V", "b.l(I)V", "z.m()V")
	// b's h is there ahead of B's.
	checkSlots(t, w, "c", "b.k()V", "b.l(I)V", "b.h()V", "z.m()V")
	checkSlots(t, w, "d", "d.k()V", "b.l(I)V", "b.h()V", "z.m()V", "B.l()V")
	checkSlots(t, w, "x", "y.h()V", "b.k()V", "b.l(I)V", "z.m()V")
}

// TestInterfaceByTheSameNameAsAStatic: the static method has no slot, so that the interface's gets one.
func TestInterfaceByTheSameNameAsAStatic(t *testing.T) {
	w := worldOf(t, told("interface i: abstract q ()V", "abstract a < Object i: static q ()V", "abstract b < a: f ()V, static q ()V"))
	checkSlots(t, w, "a", "i.q()V")
	checkSlots(t, w, "b", "i.q()V", "b.f()V")
	checkFind(t, w, "a", "q", "()V", "a.q()V")
	checkFind(t, w, "b", "q", "()V", "b.q()V")
}

// TestEachOfManySlots: as many methods as a class file holds, taken anew one by one.
func TestEachOfManySlots(t *testing.T) {
	parent, child := "a: ", "b < a: "
	var own []string
	for i := range 60 {
		name := "m" + string(rune('0'+i/10)) + string(rune('0'+i%10))
		if i > 0 {
			parent += ", "
		}
		parent += name + " ()V"
		owner := "a"
		if i%3 == 0 {
			if i > 0 {
				child += ", "
			}
			child += name + " ()V"
			owner = "b"
		}
		own = append(own, owner+"."+name+"()V")
	}
	w := worldOf(t, told(child, parent))
	checkSlots(t, w, "b", own...)
	if n := w.Slot("a", "m59", "()V"); n != 59 {
		t.Errorf("the last slot is %d", n)
	}
}

// TestParentsPlacesAreKept: a class has its parent's words and slots where the parent has them, and each slot's method has the name and descriptor that lead to it.
func TestParentsPlacesAreKept(t *testing.T) {
	w := worldOf(t, told("d < c: x I, f ()V, k ()V", "interface i: abstract k ()V, abstract f ()V", "b < Exception: x J, y I, g ()V, f ()V", "abstract c < b i: z [I, h ()V", "e < d: x LString;, g ()V"))
	for id := range w.Classes() {
		info, _ := w.Info(id)
		for text, slot := range info.Names {
			if known, _, there := w.Method(info.Slots[slot]); known.Name+known.Desc != text || !there {
				t.Errorf("%q leads to slot %d of %q, which has %+v", text, slot, info.Name, known)
			}
		}
		parent, there := w.Info(info.Super)
		if !there {
			continue
		}
		for n, kind := range parent.Words {
			if info.Words[n] != kind {
				t.Errorf("words of %q: %v, of its parent: %v", info.Name, info.Words, parent.Words)
			}
		}
		for text, slot := range parent.Names {
			if info.Names[text] != slot {
				t.Errorf("slots of %q: %v, of its parent: %v", info.Name, info.Names, parent.Names)
			}
		}
	}
	checkWord(t, w, "e", "x", "J", 0)
	checkWord(t, w, "e", "x", "I", 3)
	checkWord(t, w, "e", "x", "LString;", 4)
	checkWords(t, w, "e", 2, 1, 3, 1, 3)
	checkSlots(t, w, "e", "e.g()V", "d.f()V", "c.h()V", "d.k()V")
}
