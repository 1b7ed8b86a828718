package kin_test

import (
	"math/rand"
	"slices"
	"strings"
	"testing"

	"reglet/api"
	"reglet/kin"
)

// The reference reads the machine's own classes out of the chapter's sentence, lists all faults, finds who stands above whom by pairs until none is new, and circles by taking away whoever has nobody left above.

const ownSentence = "Object (none); String, Sys, Throwable (Object); Exception (Throwable); NullFault, ZeroFault, BoundsFault, SizeFault, CastFault, StoreFault (Exception); MemoryFault, DepthFault (Throwable)"

// ownMethods are the machine's own methods by their numbers: class, name, descriptor.
var ownMethods = [][3]string{
	{"Sys", "print", "(I)V"}, {"Sys", "print", "(J)V"}, {"Sys", "print", "(LString;)V"}, {"Sys", "exit", "(I)V"},
	{"String", "length", "()I"}, {"String", "charAt", "(I)I"},
}

// The flags and errors by their numbers: api's names could be changed with the program.
const (
	staticFlag     = 8
	abstractFlag   = 0x400
	interfaceFlag  = 0x200
	interfaceFlags = interfaceFlag + abstractFlag

	longError   = api.Errno(2)
	nameError   = api.Errno(20)
	twiceError  = api.Errno(23)
	kinError    = api.Errno(50)
	circleError = api.Errno(51)
)

// ownClasses are the machine's own classes as the chapter's sentence has them.
func ownClasses() []api.Class {
	var classes []api.Class
	for _, part := range strings.Split(ownSentence, "; ") {
		names, parent, _ := strings.Cut(strings.TrimSuffix(part, ")"), " (")
		if parent == "none" {
			parent = ""
		}
		for _, name := range strings.Split(names, ", ") {
			classes = append(classes, api.Class{Name: name, Super: parent, Methods: methodsOfOwn(name)})
		}
	}
	return classes
}

func methodsOfOwn(class string) []api.Method {
	var methods []api.Method
	for _, m := range ownMethods {
		if m[0] == class && class == "Sys" {
			methods = append(methods, api.Method{Flags: staticFlag, Name: m[1], Desc: m[2]})
		} else if m[0] == class {
			methods = append(methods, api.Method{Name: m[1], Desc: m[2]})
		}
	}
	return methods
}

// A model is the reference's tree. A pair in above is who stands above, and above whom.
type model struct {
	all   []api.Class
	above map[[2]string]bool
}

// named is a class of that name; nil: there is none.
func (m *model) named(name string) *api.Class {
	for i := range m.all {
		if m.all[i].Name == name {
			return &m.all[i]
		}
	}
	return nil
}

// wantNew is the reference's word for classes: their tree, or the first of all faults. (The chapter names them by their numbers' order.)
func wantNew(l []api.Class) (*model, api.Errno) {
	m := &model{all: slices.Concat(ownClasses(), l), above: map[[2]string]bool{}}
	var faults []api.Errno
	fault := func(is bool, e api.Errno) {
		if is {
			faults = append(faults, e)
		}
	}
	fault(len(l) > 40, longError)
	for i, c := range m.all {
		fault(!isName(c.Name), nameError)
		fault(slices.ContainsFunc(m.all[:i], func(d api.Class) bool { return c.Name == d.Name }), twiceError)
	}
	for _, c := range l {
		fault(m.isKinWrong(c), kinError)
	}
	fault(m.hasCircle(), circleError)
	if len(faults) > 0 {
		return nil, slices.Min(faults)
	}
	m.pairUp()
	return m, api.OK
}

func isName(s string) bool {
	const bytes = "abcdefghijklmnopqrstuvwxyzABCDEFGHIJKLMNOPQRSTUVWXYZ0123456789_$/"
	return len(s) >= 1 && len(s) <= 60 && strings.Trim(s, bytes) == "" && !strings.ContainsAny(s, "<>;[()")
}

func (m *model) isKinWrong(c api.Class) bool {
	parent := m.named(c.Super)
	if parent == nil || parent.Flags&interfaceFlag != 0 || c.Super == "String" || c.Super == "Sys" {
		return true
	}
	if c.Flags&interfaceFlag != 0 && c.Super != "Object" {
		return true
	}
	for i, name := range c.Ifaces {
		d := m.named(name)
		if d == nil || d.Flags&interfaceFlag == 0 || slices.Contains(c.Ifaces[:i], name) {
			return true
		}
	}
	return false
}

func (m *model) hasCircle() bool {
	left := slices.Clone(m.all)
	for {
		isLeft := func(name string) bool {
			return slices.ContainsFunc(left, func(d api.Class) bool { return d.Name == name })
		}
		kept := slices.DeleteFunc(slices.Clone(left), func(c api.Class) bool {
			return !isLeft(c.Super) && !slices.ContainsFunc(c.Ifaces, isLeft)
		})
		if len(kept) == len(left) {
			return len(left) > 0
		}
		left = kept
	}
}

func (m *model) pairUp() {
	for _, c := range m.all {
		m.above[[2]string{c.Name, c.Name}] = true
	}
	for before := 0; before < len(m.above); {
		before = len(m.above)
		for _, c := range m.all {
			for _, d := range m.all {
				for _, next := range append([]string{c.Super}, c.Ifaces...) {
					if m.above[[2]string{d.Name, next}] {
						m.above[[2]string{d.Name, c.Name}] = true
					}
				}
			}
		}
	}
}

func (m *model) wantAbove(name string) []string {
	var names []string
	for _, c := range m.all {
		if m.above[[2]string{c.Name, name}] {
			names = append(names, c.Name)
		}
	}
	slices.Sort(names)
	return names
}

func (m *model) wantKnown(typ string) bool {
	plain := strings.TrimLeft(typ, "[")
	switch {
	case len(typ)-len(plain) > 8:
		return false
	case plain == "I" || plain == "J":
		return true
	}
	return len(plain) > 2 && m.named(plain[1:len(plain)-1]) != nil && plain == "L"+plain[1:len(plain)-1]+";"
}

// classIn is the class's name in a text; "": there is none.
func classIn(s string) string {
	if len(s) < 3 || s[0] != 'L' || s[len(s)-1] != ';' {
		return ""
	}
	return s[1 : len(s)-1]
}

func (m *model) wantFits(typ, want string) bool {
	reference := func(s string) bool { return s != "" && (s[0] == 'L' || s[0] == '[') }
	element := func(s string) string {
		if len(s) > 1 && s[0] == '[' && reference(s[1:]) {
			return s[1:]
		}
		return ""
	}
	below, above := element(typ), element(want)
	return want == "" ||
		typ == want ||
		typ == "N" && reference(want) ||
		typ != "" && typ[0] == '[' && want == "LObject;" ||
		m.above[[2]string{classIn(want), classIn(typ)}] ||
		below != "" && above != "" && m.wantFits(below, above)
}

func (m *model) wantField(class, name, d string) (string, api.Field, bool) {
	for c := m.named(class); c != nil; c = m.named(c.Super) {
		for _, f := range c.Fields {
			if f.Name == name && f.Desc == d {
				return c.Name, f, true
			}
		}
	}
	return "", api.Field{}, false
}

func (m *model) wantMethod(class, name, d string) (string, api.Method, bool) {
	var order []string
	for c := m.named(class); c != nil; c = m.named(c.Super) {
		order = append(order, c.Name)
	}
	for _, owner := range append(order, m.wantAbove(class)...) {
		for _, f := range m.named(owner).Methods {
			if f.Name == name && f.Desc == d {
				return owner, f, true
			}
		}
	}
	return "", api.Method{}, false
}

// checkNew holds New against the reference, and all calls of its tree. It answers New's error.
func checkNew(t *testing.T, l []api.Class) api.Errno {
	t.Helper()
	want, wantError := wantNew(l)
	got, e := kin.New(l)
	if e != wantError || (got == nil) != (want == nil) {
		t.Fatalf("New(%+v) = %v, %v, want %v", l, got, e, wantError)
	}
	if want != nil {
		checkTree(t, got, want)
	}
	return e
}

func checkTree(t *testing.T, got *kin.Tree, want *model) {
	t.Helper()
	var names []string
	for _, c := range want.all {
		names = append(names, c.Name)
	}
	if !slices.Equal(got.Names(), names) {
		t.Fatalf("Names() = %q, want %q", got.Names(), names)
	}
	for _, name := range append(names, "absent", "", "LObject;", "object", "[Object", "Object ") {
		checkClass(t, got, want, name)
		checkMembers(t, got, want, name)
	}
	texts := textsOf(names)
	for _, s := range texts {
		if known := got.Known(s); known != want.wantKnown(s) {
			t.Fatalf("Known(%q) = %v with %+v", s, known, want.all)
		}
		for _, o := range texts {
			if fits := got.Fits(s, o); fits != want.wantFits(s, o) {
				t.Fatalf("Fits(%q, %q) = %v with %+v", s, o, fits, want.all)
			}
		}
	}
}

func checkClass(t *testing.T, got *kin.Tree, want *model, name string) {
	t.Helper()
	c, there := got.Class(name)
	var wanted api.Class
	if m := want.named(name); m != nil {
		wanted = *m
	}
	if !alike(c, wanted) || there != (want.named(name) != nil) {
		t.Fatalf("Class(%q) = %+v, %v, want %+v", name, c, there, wanted)
	}
	if above := got.Above(name); !slices.Equal(above, want.wantAbove(name)) {
		t.Fatalf("Above(%q) = %q, want %q", name, above, want.wantAbove(name))
	}
}

func checkMembers(t *testing.T, got *kin.Tree, want *model, class string) {
	t.Helper()
	for _, name := range []string{"f", "g", "", "length", "print"} {
		for _, d := range []string{"I", "J", "", "()V", "()I", "(I)V"} {
			owner, f, there := got.Field(class, name, d)
			wantOwner, wantF, wantThere := want.wantField(class, name, d)
			if owner != wantOwner || f != wantF || there != wantThere {
				t.Fatalf("Field(%q, %q, %q) = %q, %+v, %v with %+v", class, name, d, owner, f, there, want.all)
			}
			owner, m, there := got.Method(class, name, d)
			wantOwner, wantM, wantThere := want.wantMethod(class, name, d)
			if owner != wantOwner || !alike(m, wantM) || there != wantThere {
				t.Fatalf("Method(%q, %q, %q) = %q, %+v, %v with %+v", class, name, d, owner, m, there, want.all)
			}
		}
	}
}

// textsOf are types of these classes, and texts that are none.
func textsOf(classes []string) []string {
	texts := []string{"", "N", "I", "J", "V", "L", "[", "[[", "L;", "[L;", "[N", "[[N", "[V", "[L", "x", "[x", "Lz;", "[Lz;", "[[Lz;", "La", "[LObject", "LLa;;", "L[I;", "\xff", "[[[[[[[[I", "[[[[[[[[[I", "[[[[[[[[La;", "[[[[[[[[[La;", "()V"}
	for _, plain := range []string{"I", "J"} {
		texts = append(texts, "["+plain, "[["+plain, "[[["+plain)
	}
	for _, name := range classes {
		texts = append(texts, "L"+name+";", "[L"+name+";", "[[L"+name+";")
	}
	return texts
}

// pick is one of a list.
func pick[T any](r *rand.Rand, list ...T) T { return list[r.Intn(len(list))] }

// randomMembers are some members of which no two have both in common.
func randomMembers[T any](r *rand.Rand, descriptors []string, member func(name, d string) T) []T {
	var l []T
	for _, name := range []string{"f", "g"} {
		for _, d := range descriptors {
			if r.Intn(4) == 0 {
				l = append(l, member(name, d))
			}
		}
	}
	return l
}

func randomClass(r *rand.Rand, name string) api.Class {
	c := api.Class{Name: name, Super: "Object", Flags: pick(r, 0, 0, abstractFlag, interfaceFlags)}
	c.Fields = randomMembers(r, []string{"I", "J"}, func(name, d string) api.Field {
		return api.Field{Flags: pick(r, 0, staticFlag), Name: name, Desc: d}
	})
	c.Methods = randomMembers(r, []string{"()V", "()I"}, func(name, d string) api.Method {
		return api.Method{Flags: pick(r, 0, staticFlag, abstractFlag), Name: name, Desc: d, Code: []byte{177}}
	})
	return c
}

// randomClasses are classes each below some that were there before, in any order.
func randomClasses(r *rand.Rand, most int) []api.Class {
	names := []string{"a", "b", "c/d", "$", "_", "Z", "I", "L", "N", "9", "Oa", "Objec", "Objecu", strings.Repeat("n", 60)}
	r.Shuffle(len(names), func(i, j int) { names[i], names[j] = names[j], names[i] })
	parents := []string{"Object", "Throwable", "ZeroFault", "DepthFault"}
	var interfaces []string
	var l []api.Class
	for _, name := range names[:r.Intn(min(most, len(names))+1)] {
		c := randomClass(r, name)
		for _, other := range interfaces {
			if r.Intn(4) == 0 {
				c.Ifaces = append(c.Ifaces, other)
			}
		}
		r.Shuffle(len(c.Ifaces), func(i, j int) { c.Ifaces[i], c.Ifaces[j] = c.Ifaces[j], c.Ifaces[i] })
		if c.Flags&interfaceFlag != 0 {
			interfaces = append(interfaces, name)
		} else {
			c.Super = pick(r, append(parents, pick(r, parents...), parents[len(parents)-1])...)
			parents = append(parents, name)
		}
		l = append(l, c)
	}
	r.Shuffle(len(l), func(i, j int) { l[i], l[j] = l[j], l[i] })
	return l
}

func TestReferenceAtRandomClasses(t *testing.T) {
	r := rand.New(rand.NewSource(1))
	for range 150 {
		if e := checkNew(t, randomClasses(r, 14)); e != api.OK {
			t.Fatal(e)
		}
	}
}

// changed is l with one thing of a class changed, or a class told twice or lost.
func changed(r *rand.Rand, l []api.Class) []api.Class {
	l = slices.Clone(l)
	c := &l[r.Intn(len(l))]
	other := pick(r, append(l, ownClasses()...)...).Name
	switch r.Intn(7) {
	case 0:
		c.Name = pick(r, other, "fresh", "", "a<", strings.Repeat("n", 61))
	case 1:
		c.Super = other
	case 2:
		c.Super = pick(r, "", "absent", "LObject;", "String", "Sys")
	case 3:
		c.Ifaces = append(slices.Clone(c.Ifaces), other)
	case 4:
		c.Flags = pick(r, 0, abstractFlag, interfaceFlag, interfaceFlags, -1, ^interfaceFlag)
	case 5:
		l = append(l, *c)
	case 6:
		l[0], l = *c, l[1:]
	}
	return l
}

func TestReferenceAtChangedClasses(t *testing.T) {
	r := rand.New(rand.NewSource(2))
	seen := map[api.Errno]int{}
	for range 20000 {
		l := randomClasses(r, 6)
		for range 1 + r.Intn(2) {
			if len(l) > 0 {
				l = changed(r, l)
			}
		}
		// What trees answer is held against the reference elsewhere: most of these are asked for their error alone.
		if _, want := wantNew(l); want != api.OK || r.Intn(50) == 0 {
			seen[checkNew(t, l)]++
		}
	}
	for e, least := range map[api.Errno]int{api.OK: 50, nameError: 500, twiceError: 500, kinError: 500, circleError: 100} {
		if seen[e] < least {
			t.Errorf("only %d changed lists answer %v", seen[e], e)
		}
	}
}

// FuzzFits looks for two texts at which Fits and the reference differ.
func FuzzFits(f *testing.F) {
	want, _ := wantNew(family())
	got, e := kin.New(family())
	if e != api.OK {
		f.Fatal(e)
	}
	f.Add("[[Lc;", "[[Li;")
	f.Add("N", "[")
	f.Fuzz(func(t *testing.T, typ, other string) {
		// The reference steps into itself at each [.
		if len(typ) > 1000 {
			return
		}
		if got.Fits(typ, other) != want.wantFits(typ, other) || got.Known(typ) != want.wantKnown(typ) {
			t.Fatalf("Fits(%q, %q) = %v, Known(%q) = %v", typ, other, got.Fits(typ, other), typ, got.Known(typ))
		}
	})
}
