package link_test

import (
	"maps"
	"reflect"
	"slices"
	"testing"

	"reglet/api"
	"reglet/check"
	"reglet/kin"
	"reglet/link"
)

// The reference lists all faults and takes the first; it lists whatever is to be numbered, and counts; a slot's place and its method it finds apart from each other. What layers 7 and 8 answer it takes as they say.

// A place is a member's: who has it, its name and its descriptor.
type place struct{ class, name, d string }

// A model is what the reference knows of classes.
type model struct {
	tree *kin.Tree
	// In the order of Names.
	all []api.Class
}

func (m *model) named(name string) api.Class {
	c, _ := m.tree.Class(name)
	return c
}

// line are a class, its parent, the parent's and so on.
func (m *model) line(class string) []api.Class {
	var l []api.Class
	for c := m.named(class); c.Name != ""; c = m.named(c.Super) {
		l = append(l, c)
	}
	return l
}

// interfaces are those above a class, in the order of Above.
func (m *model) interfaces(class string) []api.Class {
	var l []api.Class
	for _, name := range m.tree.Above(class) {
		if c := m.named(name); c.Flags&interfaceFlag != 0 {
			l = append(l, c)
		}
	}
	return l
}

// methods are all, by their numbers.
func (m *model) methods() []place {
	var l []place
	for _, c := range m.all {
		for _, f := range c.Methods {
			l = append(l, place{c.Name, f.Name, f.Desc})
		}
	}
	return l
}

// statics are those of all classes.
func (m *model) statics() []place {
	var l []place
	for _, c := range m.all {
		l = append(l, fieldsOf(c, true)...)
	}
	return l
}

// words are those of a class's objects.
func (m *model) words(class string) []place {
	var l []place
	for _, c := range slices.Backward(m.line(class)) {
		l = append(l, fieldsOf(c, false)...)
	}
	return l
}

func fieldsOf(c api.Class, static bool) []place {
	var l []place
	for _, f := range c.Fields {
		if (f.Flags&staticFlag != 0) == static {
			l = append(l, place{c.Name, f.Name, f.Desc})
		}
	}
	return l
}

func kindsOf(l []place) []int {
	var kinds []int
	for _, f := range l {
		kinds = append(kinds, map[byte]int{'I': 1, 'J': 2, 'L': 3, '[': 3}[f.d[0]])
	}
	return kinds
}

// slots are the places of a class's slots: of all names and descriptors from Object downwards each that wasn't there before.
func (m *model) slots(class string) []place {
	var l []place
	add := func(f api.Method) {
		if p := (place{class, f.Name, f.Desc}); !slices.Contains(l, p) {
			l = append(l, p)
		}
	}
	if m.named(class).Flags&interfaceFlag != 0 {
		return nil
	}
	for _, c := range slices.Backward(m.line(class)) {
		for _, f := range c.Methods {
			if f.Flags&staticFlag == 0 {
				add(f)
			}
		}
		for _, i := range m.interfaces(c.Name) {
			for _, f := range i.Methods {
				add(f)
			}
		}
	}
	return l
}

// inSlot is the method in a slot: the one of the nearest class upwards; if none has it, that of the first interface of the highest class that has an interface with it.
func (m *model) inSlot(slot place) (place, api.Method) {
	line := m.line(slot.class)
	for _, c := range line {
		for _, f := range c.Methods {
			if f.Name == slot.name && f.Desc == slot.d && f.Flags&staticFlag == 0 {
				return place{c.Name, f.Name, f.Desc}, f
			}
		}
	}
	for _, c := range slices.Backward(line) {
		for _, i := range m.interfaces(c.Name) {
			for _, f := range i.Methods {
				if f.Name == slot.name && f.Desc == slot.d {
					return place{i.Name, f.Name, f.Desc}, f
				}
			}
		}
	}
	panic("a slot without a method")
}

// order is the one in which classes are looked at.
func (m *model) order() []api.Class {
	var l []api.Class
	left := slices.Clone(m.all)
	for len(left) > 0 {
		next := 0
		for {
			parent := slices.IndexFunc(left, func(c api.Class) bool { return c.Name == left[next].Super })
			if parent < 0 {
				break
			}
			next = parent
		}
		l = append(l, left[next])
		left = slices.Delete(left, next, next+1)
	}
	return l
}

// faults are all of a class, in order.
func (m *model) faults(c api.Class) []api.Errno {
	var l []api.Errno
	fault := func(is bool, e api.Errno) {
		if is {
			l = append(l, e)
		}
	}
	isInterface := c.Flags&interfaceFlag != 0
	for _, f := range c.Methods {
		fault(f.Flags&staticFlag != 0 && f.Flags&abstractFlag != 0, flagsError)
		fault(f.Flags&abstractFlag == 0 && isInterface, flagsError)
	}
	fault(isInterface && len(fieldsOf(c, false)) > 0, flagsError)
	for _, f := range c.Fields {
		fault(!m.tree.Known(f.Desc), kinError)
	}
	for _, f := range c.Methods {
		_, above, there := m.tree.Method(c.Super, f.Name, f.Desc)
		fault(there && above.Flags&staticFlag == 0 && f.Flags&staticFlag != 0, overError)
		for _, parent := range m.line(c.Super) {
			for _, g := range parent.Methods {
				fault(g.Name == f.Name && g.Desc == f.Desc && g.Flags&staticFlag != 0 && f.Flags&staticFlag == 0, overError)
			}
		}
	}
	for _, slot := range m.slots(c.Name) {
		_, f := m.inSlot(slot)
		fault(f.Flags&abstractFlag != 0 && c.Flags&interfaceFlags == 0, abstractError)
	}
	return l
}

// wantNew is the reference's word for classes.
func wantNew(l []api.Class) (*model, api.Errno) {
	tree, e := kin.New(l)
	if e != api.OK {
		return nil, e
	}
	m := &model{tree: tree}
	for _, name := range tree.Names() {
		m.all = append(m.all, m.named(name))
	}
	var faults []api.Errno
	for _, c := range m.order() {
		faults = append(faults, m.faults(c)...)
	}
	for _, c := range l {
		for _, f := range c.Methods {
			if _, e := check.Method(tree, c, f); e != api.OK && f.Flags&abstractFlag == 0 {
				faults = append(faults, e)
			}
		}
	}
	if len(faults) > 0 {
		return nil, faults[0]
	}
	return m, api.OK
}

// checkReference holds New against the reference, and all calls of its world. It answers New's error.
func checkReference(t *testing.T, l []api.Class) api.Errno {
	t.Helper()
	want, wantError := wantNew(l)
	w, e := link.New(l)
	if e != wantError || (w == nil) != (want == nil) {
		t.Fatalf("New(%+v) = %v, %v, want %v", l, w, e, wantError)
	}
	if want != nil {
		checkWorld(t, w, want)
	}
	return e
}

func checkWorld(t *testing.T, w *link.World, want *model) {
	t.Helper()
	if w.Classes() != len(want.all) || w.Methods() != len(want.methods()) || !slices.Equal(w.Statics(), kindsOf(want.statics())) {
		t.Fatalf("%d classes, %d methods, statics %v, want those of %+v", w.Classes(), w.Methods(), w.Statics(), want.all)
	}
	tree := w.Tree()
	if !slices.Equal(tree.Names(), want.tree.Names()) {
		t.Fatalf("the tree has %q, want %q", tree.Names(), want.tree.Names())
	}
	for _, name := range tree.Names() {
		if !slices.Equal(tree.Above(name), want.tree.Above(name)) {
			t.Fatalf("in the tree %q stand above %q, want %q", tree.Above(name), name, want.tree.Above(name))
		}
	}
	for id := -3; id < len(want.methods())+3; id++ {
		checkInfo(t, w, want, id)
		checkMethod(t, w, want, id)
	}
	checkNames(t, w, want)
}

// wantInfo is what is known of a class.
func (m *model) wantInfo(id int) (api.Info, bool) {
	if id < 0 || id >= len(m.all) {
		return api.Info{}, false
	}
	name := m.all[id].Name
	info := api.Info{Name: name, Super: m.wantClass(m.all[id].Super), Words: kindsOf(m.words(name)), Names: map[string]int{}}
	for i, slot := range m.slots(name) {
		method, _ := m.inSlot(slot)
		info.Slots = append(info.Slots, slices.Index(m.methods(), method))
		info.Names[slot.name+slot.d] = i
	}
	return info, true
}

func (m *model) wantClass(name string) int {
	return slices.IndexFunc(m.all, func(c api.Class) bool { return c.Name == name })
}

func checkInfo(t *testing.T, w *link.World, want *model, id int) {
	t.Helper()
	got, there := w.Info(id)
	info, wanted := want.wantInfo(id)
	if got.Name != info.Name || got.Super != info.Super || !slices.Equal(got.Words, info.Words) || !slices.Equal(got.Slots, info.Slots) || !maps.Equal(got.Names, info.Names) || there != wanted {
		t.Fatalf("Info(%d) = %+v, %v, want %+v with %+v", id, got, there, info, want.all)
	}
}

func checkMethod(t *testing.T, w *link.World, want *model, id int) {
	t.Helper()
	known, got, there := w.Method(id)
	var wantKnown api.Known
	var wantMethod api.Method
	all := want.methods()
	wantThere := id >= 0 && id < len(all)
	if wantThere {
		p := all[id]
		for _, f := range want.named(p.class).Methods {
			if f.Name == p.name && f.Desc == p.d {
				wantMethod = f
			}
		}
		wantKnown = api.Known{Class: p.class, Name: p.name, Desc: p.d, Static: wantMethod.Flags&staticFlag != 0, Native: kin.Native(p.class, p.name, p.d), Abstract: wantMethod.Flags&abstractFlag != 0}
	}
	if known != wantKnown || !alike(got, wantMethod) || there != wantThere {
		t.Fatalf("Method(%d) = %+v, %+v, %v, want %+v, %+v with %+v", id, known, got, there, wantKnown, wantMethod, want.all)
	}
}

// checkNames holds all that is asked by names against the reference: of each class by the members of all.
func checkNames(t *testing.T, w *link.World, want *model) {
	t.Helper()
	members := map[place]bool{{"", "", ""}: true, {"", "f", ""}: true, {"", "x", "V"}: true}
	for _, c := range want.all {
		for _, f := range c.Fields {
			members[place{"", f.Name, f.Desc}] = true
		}
		for _, f := range c.Methods {
			members[place{"", f.Name, f.Desc}] = true
		}
	}
	for _, class := range append(want.tree.Names(), "", "absent", "LObject;", "object", "[Object") {
		if got := w.Class(class); got != want.wantClass(class) {
			t.Fatalf("Class(%q) = %d, want %d with %+v", class, got, want.wantClass(class), want.all)
		}
		slots, words, methods, statics := want.slots(class), want.words(class), want.methods(), want.statics()
		for p := range members {
			wantFind, wantWord := -1, -1
			if owner, _, there := want.tree.Method(class, p.name, p.d); there {
				wantFind = slices.Index(methods, place{owner, p.name, p.d})
			}
			if owner, f, there := want.tree.Field(class, p.name, p.d); there && f.Flags&staticFlag != 0 {
				wantWord = slices.Index(statics, place{owner, p.name, p.d})
			} else if there {
				wantWord = slices.Index(words, place{owner, p.name, p.d})
			}
			got := [3]int{w.Find(class, p.name, p.d), w.Slot(class, p.name, p.d), w.Word(class, p.name, p.d)}
			if all := [3]int{wantFind, slices.Index(slots, place{class, p.name, p.d}), wantWord}; got != all {
				t.Fatalf("Find, Slot and Word of %q, %q, %q: %v, want %v with %+v", class, p.name, p.d, got, all, want.all)
			}
		}
	}
}

// alike: are they the same? (An empty list may be nil or not.)
func alike(a, b any) bool { return alikeValues(reflect.ValueOf(a), reflect.ValueOf(b)) }

func alikeValues(a, b reflect.Value) bool {
	switch a.Kind() {
	case reflect.Slice:
		if a.Len() != b.Len() {
			return false
		}
		for i := range a.Len() {
			if !alikeValues(a.Index(i), b.Index(i)) {
				return false
			}
		}
		return true
	case reflect.Struct:
		for i := range a.NumField() {
			if !alikeValues(a.Field(i), b.Field(i)) {
				return false
			}
		}
		return true
	}
	return a.Equal(b)
}
