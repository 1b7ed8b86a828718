package kin_test

import (
	"math"
	"slices"
	"strconv"
	"strings"
	"testing"

	"reglet/api"
	"reglet/kin"
)

// plain is a class without members; interfaceOf is such an interface.
func plain(name, super string, interfaces ...string) api.Class {
	return api.Class{Name: name, Super: super, Ifaces: interfaces}
}

func interfaceOf(name string, interfaces ...string) api.Class {
	return api.Class{Flags: interfaceFlags, Name: name, Super: "Object", Ifaces: interfaces}
}

// family are classes that have a part of each sort; each call makes them anew. c is below b, b below a; j stands above a, i above j, k above c.
func family() []api.Class {
	return []api.Class{
		{Name: "c", Super: "b", Ifaces: []string{"k"},
			Fields: []api.Field{{Flags: staticFlag, Name: "x", Desc: "I"}, {Name: "w", Desc: "La;"}},
			Methods: []api.Method{
				{Name: "m", Desc: "()V", Stack: 3, Locals: 4, Code: []byte{0, 177}},
				{Flags: staticFlag, Name: "m", Desc: "()I", Code: []byte{8, 172}},
			}},
		{Flags: interfaceFlags, Name: "k", Super: "Object", Methods: []api.Method{abstract("h", "()V")}},
		{Name: "b", Super: "a", Fields: []api.Field{{Name: "y", Desc: "J"}, {Name: "z", Desc: "I"}}, Methods: []api.Method{abstract("h", "(I)V")}},
		{Flags: abstractFlag, Name: "a", Super: "Object", Ifaces: []string{"j"},
			Pool:   []api.Const{{}, {Kind: 1, Text: "told"}, {Kind: 9, Text: "a", Name: "x", Desc: "I"}},
			Fields: []api.Field{{Name: "x", Desc: "I"}, {Name: "y", Desc: "I"}},
			Methods: []api.Method{
				abstract("n", "()V"),
				{Name: "m", Desc: "()V", Code: []byte{177},
					Rows:   []api.Row{{From: 0, To: 1, At: 0, Class: "e"}},
					Frames: []api.Frame{{Pc: 0, Locals: []string{"La;", ""}, Stack: []string{"Le;"}}}},
			}},
		{Name: "e", Super: "ZeroFault"},
		{Flags: interfaceFlags, Name: "i", Super: "Object",
			Fields:  []api.Field{{Flags: staticFlag, Name: "s", Desc: "I"}},
			Methods: []api.Method{abstract("f", "()V"), abstract("h", "()V"), abstract("n", "()V")}},
		{Flags: interfaceFlags, Name: "j", Super: "Object", Ifaces: []string{"i"}, Methods: []api.Method{abstract("g", "()V"), abstract("h", "()V")}},
		{Name: "Z", Super: "Object"},
	}
}

func abstract(name, d string) api.Method {
	return api.Method{Flags: abstractFlag, Name: name, Desc: d}
}

// treeOf is the tree of classes of which there is one.
func treeOf(t *testing.T, l ...api.Class) *kin.Tree {
	t.Helper()
	tree, e := kin.New(l)
	if e != api.OK || tree == nil {
		t.Fatalf("New(%+v) = %v, %v", l, tree, e)
	}
	return tree
}

func TestExamplesOfTheChapter(t *testing.T) {
	tree := treeOf(t, plain("a", "Object"))
	for _, x := range []struct {
		typ, want string
		fits      bool
	}{
		{"La;", "LObject;", true}, {"[La;", "[LObject;", true}, {"[I", "[LObject;", false}, {"[I", "LObject;", true}, {"I", "LObject;", false},
	} {
		if got := tree.Fits(x.typ, x.want); got != x.fits {
			t.Errorf("Fits(%q, %q) = %v", x.typ, x.want, got)
		}
	}
	if treeOf(t).Fits("La;", "LObject;") {
		t.Error("a isn't there, but fits")
	}
}

func TestOwn(t *testing.T) {
	want := strings.Fields("Object String Sys Throwable Exception NullFault ZeroFault BoundsFault SizeFault CastFault StoreFault MemoryFault DepthFault")
	if got := kin.Own(); !slices.Equal(got, want) {
		t.Fatalf("Own() = %q", got)
	}
	for _, l := range [][]api.Class{nil, {}} {
		tree := treeOf(t, l...)
		if got := tree.Names(); !slices.Equal(got, want) {
			t.Fatalf("Names() = %q", got)
		}
	}
}

func TestNative(t *testing.T) {
	for want, m := range ownMethods {
		if got := kin.Native(m[0], m[1], m[2]); got != want {
			t.Errorf("Native(%q) = %d, want %d", m, got, want)
		}
	}
	numbers := []int{api.NativePrintInt, api.NativePrintLong, api.NativePrintText, api.NativeExit, api.NativeLength, api.NativeCharAt}
	if !slices.Equal(numbers, []int{0, 1, 2, 3, 4, 5}) {
		t.Errorf("the numbers are %d", numbers)
	}
}

// TestNativeOfOthers: class, name and descriptor must all three be those of one method.
func TestNativeOfOthers(t *testing.T) {
	others := []string{"", "Object", "Sys", "String", "sys", "Sys ", "LSys;", "print", "exit", "length", "charAt", "Print", "prin", "(I)V", "(J)V", "(LString;)V", "()I", "(I)I", "(I)J", "()V", "V", "(I)V ", "\xff"}
	own := map[[3]string]bool{}
	for _, m := range ownMethods {
		own[m] = true
	}
	for _, class := range others {
		for _, name := range others {
			for _, d := range others {
				got := kin.Native(class, name, d)
				if (got >= 0) != own[[3]string{class, name, d}] || got < -1 {
					t.Errorf("Native(%q, %q, %q) = %d", class, name, d, got)
				}
			}
		}
	}
}

func TestOwnClasses(t *testing.T) {
	tree := treeOf(t, family()...)
	print := func(d string) api.Method { return api.Method{Flags: 8, Name: "print", Desc: d} }
	for name, want := range map[string]api.Class{
		"Object": {Name: "Object"},
		"String": {Name: "String", Super: "Object", Methods: []api.Method{{Name: "length", Desc: "()I"}, {Name: "charAt", Desc: "(I)I"}}},
		"Sys": {Name: "Sys", Super: "Object", Methods: []api.Method{
			print("(I)V"), print("(J)V"), print("(LString;)V"), {Flags: 8, Name: "exit", Desc: "(I)V"},
		}},
		"Throwable":   plain("Throwable", "Object"),
		"Exception":   plain("Exception", "Throwable"),
		"NullFault":   plain("NullFault", "Exception"),
		"ZeroFault":   plain("ZeroFault", "Exception"),
		"BoundsFault": plain("BoundsFault", "Exception"),
		"SizeFault":   plain("SizeFault", "Exception"),
		"CastFault":   plain("CastFault", "Exception"),
		"StoreFault":  plain("StoreFault", "Exception"),
		"MemoryFault": plain("MemoryFault", "Throwable"),
		"DepthFault":  plain("DepthFault", "Throwable"),
	} {
		if got, there := tree.Class(name); !there || !alike(got, want) {
			t.Errorf("Class(%q) = %+v, %v", name, got, there)
		}
	}
}

func TestClasses(t *testing.T) {
	tree := treeOf(t, family()...)
	names := kin.Own()
	for _, want := range family() {
		names = append(names, want.Name)
		if got, there := tree.Class(want.Name); !there || !alike(got, want) {
			t.Errorf("Class(%q) = %+v, %v", want.Name, got, there)
		}
	}
	if got := tree.Names(); !slices.Equal(got, names) {
		t.Errorf("Names() = %q", got)
	}
	for _, name := range []string{"", "absent", "A", "La;", "[La;", "Object ", "object", "aa", "\x00", "I", "N"} {
		if got, there := tree.Class(name); there || !alike(got, api.Class{}) {
			t.Errorf("Class(%q) = %+v, %v", name, got, there)
		}
		if got := tree.Above(name); len(got) > 0 {
			t.Errorf("Above(%q) = %q", name, got)
		}
	}
}

func TestAbove(t *testing.T) {
	tree := treeOf(t, family()...)
	for name, want := range map[string]string{
		"Object": "Object", "String": "Object String", "Sys": "Object Sys", "Throwable": "Object Throwable",
		"Exception": "Exception Object Throwable", "BoundsFault": "BoundsFault Exception Object Throwable", "ZeroFault": "Exception Object Throwable ZeroFault",
		"MemoryFault": "MemoryFault Object Throwable", "DepthFault": "DepthFault Object Throwable",
		"a": "Object a i j", "b": "Object a b i j", "c": "Object a b c i j k", "e": "Exception Object Throwable ZeroFault e",
		"i": "Object i", "j": "Object i j", "k": "Object k", "Z": "Object Z",
	} {
		if got := tree.Above(name); strings.Join(got, " ") != want {
			t.Errorf("Above(%q) = %q, want %q", name, got, want)
		}
	}
}

// TestAboveInTheOrderOfBytes: capital letters are ahead of the others, and a name is ahead of longer ones.
func TestAboveInTheOrderOfBytes(t *testing.T) {
	want := []string{"$", "/", "0", "9", "A", "Object", "ObjectA", "Z", "_", "a", "a/b", "aa", "z"}
	var l []api.Class
	var interfaces []string
	for _, name := range want {
		if name != "Object" && name != "a" {
			interfaces = append([]string{name}, interfaces...)
			l = append(l, interfaceOf(name))
		}
	}
	l = append(l, plain("a", "Object", interfaces...))
	if got := treeOf(t, l...).Above("a"); !slices.Equal(got, want) {
		t.Errorf("Above(a) = %q", got)
	}
}

// TestAboveByTwoWays: who stands above by several ways is there once.
func TestAboveByTwoWays(t *testing.T) {
	tree := treeOf(t, interfaceOf("i"), interfaceOf("j", "i"), interfaceOf("k", "i", "j"), plain("a", "Object", "i", "k"), plain("b", "a", "j", "i", "k"))
	if got := strings.Join(tree.Above("b"), " "); got != "Object a b i j k" {
		t.Errorf("Above(b) = %s", got)
	}
}

// TestAboveHasAllParents: each class, its parent, its interfaces, and all that stand above these; nobody else.
func TestAboveHasAllParents(t *testing.T) {
	tree := treeOf(t, family()...)
	for _, name := range tree.Names() {
		c, _ := tree.Class(name)
		want := []string{name}
		for _, next := range append(c.Ifaces, c.Super) {
			want = append(want, tree.Above(next)...)
		}
		slices.Sort(want)
		if got := tree.Above(name); !slices.Equal(got, slices.Compact(want)) {
			t.Errorf("Above(%q) = %q, want %q", name, got, want)
		}
	}
}

func TestKnown(t *testing.T) {
	tree := treeOf(t, append(family(), plain("L", "Object"), plain(strings.Repeat("n", 60), "Object"))...)
	for _, typ := range []string{"I", "J", "La;", "Li;", "Le;", "LL;", "LObject;", "LString;", "LSys;", "LDepthFault;", "L" + strings.Repeat("n", 60) + ";"} {
		for arrays := range 12 {
			if got := tree.Known(strings.Repeat("[", arrays) + typ); got != (arrays <= 8) {
				t.Errorf("Known of %d [ and %q is %v", arrays, typ, got)
			}
		}
		for _, s := range []string{typ + " ", " " + typ, typ + "I", typ + "[", "(" + typ + ")V"} {
			if tree.Known(s) {
				t.Errorf("Known(%q)", s)
			}
		}
	}
	for _, s := range []string{"", "N", "V", "Z", "B", "i", "L", "L;", "a", "Object", "La", "a;", "Labsent;", "LA;", "Lobject;", "LI;", "La;b;", "L[I;", "L[La;;", "LLa;;", "LN;", "L ;", "L" + strings.Repeat("n", 59) + ";", "L" + strings.Repeat("n", 61) + ";", "\xff", ";", "I[", "()V"} {
		for arrays := range 12 {
			if tree.Known(strings.Repeat("[", arrays) + s) {
				t.Errorf("%d [ and %q are known", arrays, s)
			}
		}
	}
}

// TestMostClasses: 40 classes each below the one ahead, told in both orders, and 40 interfaces.
func TestMostClasses(t *testing.T) {
	line := []api.Class{plain("n0", "Object")}
	web := []api.Class{interfaceOf("n0")}
	line[0].Fields = []api.Field{{Name: "x", Desc: "I"}}
	web[0].Methods = []api.Method{abstract("f", "()V")}
	for i := 1; i < 40; i++ {
		name, next := "n"+strconv.Itoa(i), "n"+strconv.Itoa(i-1)
		line = append(line, plain(name, next))
		web = append(web, interfaceOf(name, next))
	}
	for range 2 {
		lineTree, webTree := treeOf(t, line...), treeOf(t, web...)
		if len(lineTree.Names()) != 53 || len(lineTree.Above("n39")) != 41 || len(webTree.Above("n39")) != 41 || !lineTree.Fits("[Ln39;", "[Ln0;") {
			t.Errorf("Above(n39) = %q and %q", lineTree.Above("n39"), webTree.Above("n39"))
		}
		if owner, f, there := lineTree.Field("n39", "x", "I"); owner != "n0" || f.Name != "x" || !there {
			t.Errorf("x is %q's", owner)
		}
		if owner, m, there := webTree.Method("n39", "f", "()V"); owner != "n0" || m.Name != "f" || !there {
			t.Errorf("f is %q's", owner)
		}
		slices.Reverse(line)
		slices.Reverse(web)
	}
	var all []string
	for _, c := range web[1:] {
		all = append(all, c.Name)
	}
	web[0].Ifaces = all
	for i := range web[1:] {
		web[i+1].Ifaces = nil
	}
	if got := treeOf(t, web...).Above(web[0].Name); len(got) != 41 {
		t.Errorf("Above of 39 interfaces is %q", got)
	}
}

func TestNilTree(t *testing.T) {
	var none *kin.Tree
	for _, name := range append(kin.Own(), "", "a", "I") {
		if c, there := none.Class(name); there || !alike(c, api.Class{}) {
			t.Errorf("Class(%q) = %+v, %v", name, c, there)
		}
		if above := none.Above(name); len(above) > 0 {
			t.Errorf("Above(%q) = %q", name, above)
		}
		if owner, f, there := none.Field(name, "x", "I"); owner != "" || there || f != (api.Field{}) {
			t.Errorf("Field(%q) = %q, %+v, %v", name, owner, f, there)
		}
		for _, m := range append(ownMethods, [3]string{}) {
			if owner, got, there := none.Method(name, m[1], m[2]); owner != "" || there || !alike(got, api.Method{}) {
				t.Errorf("Method(%q, %q) = %q, %+v, %v", name, m, owner, got, there)
			}
		}
	}
	if names := none.Names(); len(names) > 0 {
		t.Errorf("Names() = %q", names)
	}
	for _, s := range textsOf(kin.Own()) {
		if none.Known(s) {
			t.Errorf("Known(%q)", s)
		}
		if !none.Fits(s, "") {
			t.Errorf("%q doesn't fit where anything is wanted", s)
		}
		for _, want := range textsOf(kin.Own()) {
			if none.Fits(s, want) != (want == "") {
				t.Errorf("Fits(%q, %q)", s, want)
			}
		}
	}
}

// TestTreeThatNewDidNotMake: it has no class, and no call of it panics.
func TestTreeThatNewDidNotMake(t *testing.T) {
	empty := &kin.Tree{}
	for _, name := range append(kin.Own(), "", "a") {
		_, there := empty.Class(name)
		_, _, field := empty.Field(name, "x", "I")
		_, _, method := empty.Method(name, "print", "(I)V")
		if there || field || method || len(empty.Above(name)) > 0 || len(empty.Names()) > 0 || empty.Known("L"+name+";") || empty.Fits("L"+name+";", "[I") {
			t.Errorf("%q is in a tree of nothing", name)
		}
	}
}

// TestFlagsOfInterfaces: one bit says that it is one, whatever the others are.
func TestFlagsOfInterfaces(t *testing.T) {
	for _, flags := range []int{0x200, 0x600, 0x201, 0xffff, -1, math.MaxInt, math.MinInt + 0x200} {
		i := api.Class{Flags: flags, Name: "i", Super: "Object"}
		checkNew(t, []api.Class{i, plain("a", "Object", "i")})
		treeOf(t, i, plain("a", "Object", "i"))
		checkNewFault(t, kinError, i, plain("a", "i"))
	}
	for _, flags := range []int{0, 0x400, 0x1ff, 0x100, 0xfdff, ^0x200, math.MinInt, math.MaxInt - 0x200} {
		c := api.Class{Flags: flags, Name: "c", Super: "Throwable"}
		treeOf(t, c, plain("a", "c"))
		checkNewFault(t, kinError, c, plain("a", "Object", "c"))
	}
}
