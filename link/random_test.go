package link_test

import (
	"math/rand"
	"slices"
	"testing"

	"reglet/api"
)

// pick is one of a list.
func pick[T any](r *rand.Rand, list ...T) T { return list[r.Intn(len(list))] }

// A maker makes classes that are taken: a member that would be a fault isn't put in.
type maker struct {
	r *rand.Rand
	// Who may be a parent, and who may be an interface.
	parents, interfaces []string
	l                   []api.Class
}

var (
	memberNames = []string{"f", "g", "h"}
	fieldTypes  = []string{"I", "J", "LString;", "[I", "La;"}
	methodTypes = []string{"()V", "()I", "(J)J", "(LObject;)LObject;"}
)

// randomClasses are classes that are taken, told in any order.
func randomClasses(r *rand.Rand, most int) []api.Class {
	g := &maker{r: r, parents: []string{"Object", "Object", "Exception", "DepthFault"}}
	// One must be there: it is the type of some fields.
	names := []string{"b", "c", "d", "e", "A", "Z", "$", "zz", "Objec", "Objecu"}
	r.Shuffle(len(names), func(i, j int) { names[i], names[j] = names[j], names[i] })
	for _, name := range append([]string{"a"}, names[:r.Intn(most)]...) {
		g.addClass(name)
	}
	r.Shuffle(len(g.l), func(i, j int) { g.l[i], g.l[j] = g.l[j], g.l[i] })
	return g.l
}

func (g *maker) addClass(name string) {
	c := api.Class{Name: name, Super: "Object", Flags: pick(g.r, 0, 0, abstractFlag, interfaceFlags)}
	for _, other := range g.interfaces {
		if g.r.Intn(3) == 0 {
			c.Ifaces = append(c.Ifaces, other)
		}
	}
	g.r.Shuffle(len(c.Ifaces), func(i, j int) { c.Ifaces[i], c.Ifaces[j] = c.Ifaces[j], c.Ifaces[i] })
	if c.Flags == interfaceFlags {
		g.interfaces = append(g.interfaces, name)
	} else {
		c.Super = pick(g.r, append(g.parents, g.parents[len(g.parents)-1])...)
		g.parents = append(g.parents, name)
	}
	g.l = append(g.l, c)
	g.addMembers(&g.l[len(g.l)-1])
}

// addMembers gives a class some members, and then code to all its abstract slots.
func (g *maker) addMembers(c *api.Class) {
	for _, name := range memberNames {
		for _, d := range fieldTypes {
			if g.r.Intn(8) == 0 {
				c.Fields = append(c.Fields, api.Field{Flags: g.fieldFlags(*c), Name: name, Desc: d})
			}
		}
		for _, d := range methodTypes {
			if g.r.Intn(4) == 0 {
				g.addMethod(c, method(g.methodFlags(*c), name, d))
			}
		}
	}
	g.r.Shuffle(len(c.Methods), func(i, j int) { c.Methods[i], c.Methods[j] = c.Methods[j], c.Methods[i] })
	if c.Flags == 0 {
		g.giveCode(c)
	}
}

func (g *maker) fieldFlags(c api.Class) int {
	if c.Flags == interfaceFlags {
		return staticFlag
	}
	return pick(g.r, 0, 0, staticFlag)
}

func (g *maker) methodFlags(c api.Class) int {
	switch c.Flags {
	case interfaceFlags:
		return abstractFlag
	case abstractFlag:
		return pick(g.r, 0, abstractFlag, staticFlag)
	}
	return pick(g.r, 0, 0, staticFlag)
}

// addMethod adds a method, unless it makes a fault of the flags or of the parents' methods.
func (g *maker) addMethod(c *api.Class, m api.Method) {
	c.Methods = append(c.Methods, m)
	if _, e := wantNew(g.l); e == flagsError || e == overError {
		c.Methods = c.Methods[:len(c.Methods)-1]
	}
}

// giveCode adds methods for all abstract slots; where there can be none the class becomes an abstract one.
func (g *maker) giveCode(c *api.Class) {
	for _, name := range memberNames {
		for _, d := range methodTypes {
			if _, e := wantNew(g.l); e != abstractError {
				return
			}
			if !slices.ContainsFunc(c.Methods, func(m api.Method) bool { return m.Name == name && m.Desc == d }) {
				g.addMethod(c, method(0, name, d))
			}
		}
	}
	if _, e := wantNew(g.l); e == abstractError {
		c.Flags = abstractFlag
	}
}

func TestReferenceAtRandomClasses(t *testing.T) {
	r := rand.New(rand.NewSource(1))
	for range 300 {
		if e := checkReference(t, randomClasses(r, 10)); e != api.OK {
			t.Fatal(e)
		}
	}
}

// changedClasses are classes with one thing of one of them changed.
func changedClasses(r *rand.Rand, l []api.Class) []api.Class {
	l = slices.Clone(l)
	c := &l[r.Intn(len(l))]
	c.Fields, c.Methods = slices.Clone(c.Fields), slices.Clone(c.Methods)
	other := pick(r, l...).Name
	switch r.Intn(12) {
	case 0:
		c.Super = pick(r, other, "Object", "ZeroFault", "String", "absent")
	case 1:
		c.Ifaces = append(slices.Clone(c.Ifaces), other)
	case 2:
		c.Flags = pick(r, 0, abstractFlag, interfaceFlag, interfaceFlags)
	case 3:
		c.Name = pick(r, other, "fresh", "Object", "")
	case 4, 5:
		changeMethod(r, c)
	case 6, 7, 8, 9, 10:
		addOther(c, method(pick(r, 0, staticFlag, staticFlag, abstractFlag), pick(r, memberNames...), pick(r, methodTypes...)))
	case 11:
		if len(c.Fields) > 0 {
			f := &c.Fields[r.Intn(len(c.Fields))]
			f.Flags, f.Desc = pick(r, f.Flags, 0, staticFlag), pick(r, f.Desc, "Lz;", "V", "[L"+other+";")
		}
	}
	return l
}

// addOther adds a method, unless there is one of that name and descriptor: which of two is meant isn't said.
func addOther(c *api.Class, m api.Method) {
	if !slices.ContainsFunc(c.Methods, func(other api.Method) bool { return other.Name == m.Name && other.Desc == m.Desc }) {
		c.Methods = append(c.Methods, m)
	}
}

func changeMethod(r *rand.Rand, c *api.Class) {
	if len(c.Methods) == 0 {
		return
	}
	m := &c.Methods[r.Intn(len(c.Methods))]
	switch r.Intn(4) {
	case 0:
		m.Flags = pick(r, 0, staticFlag, abstractFlag, staticFlag+abstractFlag)
	case 1:
		m.Code = pick(r, nil, []byte{254}, []byte{0}, []byte{3, 172}, []byte{177})
	case 2:
		m.Stack, m.Locals = pick(r, m.Stack, 0, 21), pick(r, m.Locals, 0, 41)
	case 3:
		m.Frames = []api.Frame{{Pc: 1}}
	}
}

// TestReferenceAtChangedClasses: of each error there are many, with one change and with several.
func TestReferenceAtChangedClasses(t *testing.T) {
	r := rand.New(rand.NewSource(2))
	seen := map[api.Errno]int{}
	for range 800 {
		first := randomClasses(r, 7)
		for range 5 {
			l := first
			for range 1 + r.Intn(3) {
				l = changedClasses(r, l)
			}
			seen[checkReference(t, l)]++
		}
	}
	for e, least := range map[api.Errno]int{
		api.OK: 300, flagsError: 100, kinError: 100, overError: 80, abstractError: 100, nameError: 30, twiceError: 50, circleError: 10,
		argError: 20, codeError: 20, frameError: 20, stackError: 20, typeError: 20,
	} {
		if seen[e] < least {
			t.Errorf("only %d changed lists answer %v", seen[e], e)
		}
	}
}

// FuzzNew looks for classes at which New and the reference differ: its number says how they are made and changed.
func FuzzNew(f *testing.F) {
	f.Add(int64(1), 0)
	f.Add(int64(2), 3)
	f.Fuzz(func(t *testing.T, seed int64, changes int) {
		r := rand.New(rand.NewSource(seed))
		l := randomClasses(r, 10)
		for range min(max(changes, 0), 6) {
			l = changedClasses(r, l)
		}
		checkReference(t, l)
	})
}
