package kin_test

import (
	"testing"

	"reglet/api"
	"reglet/kin"
)

// checkField: the field is the owner's; "": there is none.
func checkField(t *testing.T, tree *kin.Tree, class, name, d, owner string) {
	t.Helper()
	got, f, there := tree.Field(class, name, d)
	var want api.Field
	if owner != "" {
		c, _ := tree.Class(owner)
		for _, g := range c.Fields {
			if g.Name == name && g.Desc == d {
				want = g
			}
		}
	}
	if got != owner || f != want || there != (owner != "") {
		t.Errorf("Field(%q, %q, %q) = %q, %+v, %v, want %q's", class, name, d, got, f, there, owner)
	}
}

func checkMethod(t *testing.T, tree *kin.Tree, class, name, d, owner string) {
	t.Helper()
	got, m, there := tree.Method(class, name, d)
	var want api.Method
	if owner != "" {
		c, _ := tree.Class(owner)
		for _, n := range c.Methods {
			if n.Name == name && n.Desc == d {
				want = n
			}
		}
	}
	if got != owner || !alike(m, want) || there != (owner != "") {
		t.Errorf("Method(%q, %q, %q) = %q, %+v, %v, want %q's", class, name, d, got, m, there, owner)
	}
}

func TestFields(t *testing.T) {
	tree := treeOf(t, family()...)
	// In the class itself, and of several that have one the first.
	checkField(t, tree, "a", "x", "I", "a")
	checkField(t, tree, "c", "w", "La;", "c")
	checkField(t, tree, "c", "x", "I", "c")
	// In a parent, one or two above; name and type must both be the same.
	checkField(t, tree, "b", "x", "I", "a")
	checkField(t, tree, "c", "z", "I", "b")
	checkField(t, tree, "c", "y", "I", "a")
	checkField(t, tree, "c", "y", "J", "b")
	checkField(t, tree, "b", "y", "I", "a")
	// An interface's: only of itself, not of who stands below.
	checkField(t, tree, "i", "s", "I", "i")
	checkField(t, tree, "j", "s", "I", "")
	checkField(t, tree, "a", "s", "I", "")
	checkField(t, tree, "c", "s", "I", "")
	// In none: of another name, of another type, of who stands below, of a class that isn't there.
	for _, x := range [][3]string{
		{"a", "z", "I"}, {"b", "w", "La;"}, {"c", "X", "I"}, {"c", "", "I"}, {"c", "x", "J"}, {"c", "x", ""}, {"c", "w", "Lb;"}, {"c", "w", "LObject;"}, {"a", "m", "()V"},
		{"e", "x", "I"}, {"Z", "x", "I"}, {"Object", "x", "I"}, {"String", "x", "I"}, {"Sys", "print", "(I)V"}, {"", "x", "I"}, {"absent", "x", "I"}, {"La;", "x", "I"}, {"", "", ""},
	} {
		checkField(t, tree, x[0], x[1], x[2], "")
	}
}

func TestMethods(t *testing.T) {
	tree := treeOf(t, family()...)
	// In the class itself, and of several that have one the first.
	checkMethod(t, tree, "a", "m", "()V", "a")
	checkMethod(t, tree, "c", "m", "()V", "c")
	checkMethod(t, tree, "c", "m", "()I", "c")
	// In a parent, one or two above; an abstract one of a parent is ahead of an interface's.
	checkMethod(t, tree, "b", "m", "()V", "a")
	checkMethod(t, tree, "c", "h", "(I)V", "b")
	checkMethod(t, tree, "c", "n", "()V", "a")
	// In an interface: its own, one's that it names, a parent's; of several the first by the order of bytes.
	checkMethod(t, tree, "k", "h", "()V", "k")
	checkMethod(t, tree, "j", "g", "()V", "j")
	checkMethod(t, tree, "j", "f", "()V", "i")
	checkMethod(t, tree, "j", "h", "()V", "j")
	checkMethod(t, tree, "c", "g", "()V", "j")
	checkMethod(t, tree, "c", "f", "()V", "i")
	checkMethod(t, tree, "a", "h", "()V", "i")
	checkMethod(t, tree, "c", "h", "()V", "i")
	// In none.
	for _, x := range [][3]string{
		{"a", "m", "()I"}, {"b", "m", "()I"}, {"c", "M", "()V"}, {"c", "", "()V"}, {"c", "m", "(I)V"}, {"c", "m", ""}, {"c", "m", "()J"}, {"a", "x", "I"}, {"i", "g", "()V"}, {"k", "f", "()V"},
		{"e", "m", "()V"}, {"Z", "m", "()V"}, {"Object", "m", "()V"}, {"", "m", "()V"}, {"absent", "m", "()V"}, {"La;", "m", "()V"}, {"", "", ""},
	} {
		checkMethod(t, tree, x[0], x[1], x[2], "")
	}
}

func TestOwnMethods(t *testing.T) {
	tree := treeOf(t, family()...)
	for _, m := range ownMethods {
		for _, class := range tree.Names() {
			if class == m[0] {
				checkMethod(t, tree, class, m[1], m[2], class)
			} else {
				checkMethod(t, tree, class, m[1], m[2], "")
			}
		}
	}
	owner, m, _ := tree.Method("Sys", "exit", "(I)V")
	if owner != "Sys" || m.Flags != staticFlag || len(m.Code) > 0 {
		t.Errorf("exit is %q's: %+v", owner, m)
	}
}

// TestMethodsOfSeveralInterfaces: neither the order in which they are named counts, nor how far above they are.
func TestMethodsOfSeveralInterfaces(t *testing.T) {
	with := func(name string, interfaces ...string) api.Class {
		c := interfaceOf(name, interfaces...)
		c.Methods = []api.Method{abstract("f", "()V")}
		return c
	}
	l := []api.Class{with("m", "b"), with("b"), with("Z"), with("$"), with("_"), with("x"), interfaceOf("0")}
	for _, x := range []struct {
		own, parents []string
		owner        string
	}{
		{[]string{"m"}, nil, "b"},
		{[]string{"m", "x"}, nil, "b"},
		{[]string{"x"}, []string{"m"}, "b"},
		{[]string{"m"}, []string{"x"}, "b"},
		{[]string{"b", "Z"}, nil, "Z"},
		{[]string{"_", "b"}, []string{"x"}, "_"},
		{[]string{"x", "b", "_", "$", "Z"}, nil, "$"},
		{[]string{"x"}, []string{"Z", "$"}, "$"},
		{[]string{"0", "x"}, nil, "x"},
		{[]string{"0"}, nil, ""},
		{nil, []string{"Z"}, "Z"},
	} {
		tree := treeOf(t, append(l, plain("parent", "Object", x.parents...), plain("a", "parent", x.own...))...)
		checkMethod(t, tree, "a", "f", "()V", x.owner)
		// A parent's is ahead of all of them, by whatever name.
		last := plain("zz", "Object", x.parents...)
		last.Methods = []api.Method{abstract("f", "()V")}
		tree = treeOf(t, append(l, last, plain("y", "zz"), plain("a", "y", x.own...))...)
		checkMethod(t, tree, "a", "f", "()V", "zz")
	}
	// The class itself is ahead of what stands above it.
	own := plain("zz", "Object", "$", "b")
	own.Methods = []api.Method{abstract("f", "()V")}
	checkMethod(t, treeOf(t, append(l, own)...), "zz", "f", "()V", "zz")
	checkMethod(t, treeOf(t, l...), "m", "f", "()V", "m")
}

// TestAnyMembers: members are held against texts as they are, names and types or not.
func TestAnyMembers(t *testing.T) {
	odd := []string{"", " ", "\xff", "<init>", "[", "N", "I"}
	c := plain("a", "Object")
	for i, name := range odd {
		c.Fields = append(c.Fields, api.Field{Flags: i - 3, Name: name, Desc: odd[(i+1)%len(odd)]})
		c.Methods = append(c.Methods, api.Method{Flags: i - 3, Name: name, Desc: odd[(i+2)%len(odd)], Stack: -1, Locals: i})
	}
	tree := treeOf(t, c, plain("b", "a"))
	for i, name := range odd {
		for j, d := range odd {
			owner := ""
			if j == (i+1)%len(odd) {
				owner = "a"
			}
			checkField(t, tree, "b", name, d, owner)
			owner = ""
			if j == (i+2)%len(odd) {
				owner = "a"
			}
			checkMethod(t, tree, "b", name, d, owner)
		}
	}
}
