package kin_test

import (
	"slices"
	"strconv"
	"strings"
	"testing"

	"reglet/api"
	"reglet/kin"
)

// checkNewFault: these classes have that fault, in whatever order they stand, and there is no tree of them.
func checkNewFault(t *testing.T, want api.Errno, l ...api.Class) {
	t.Helper()
	for range max(len(l), 1) {
		for range 2 {
			if tree, e := kin.New(l); e != want || tree != nil {
				t.Errorf("New(%+v) = %v, %v, want %v", l, tree, e, want)
			}
			slices.Reverse(l)
		}
		l = append(slices.Clone(l[1:]), l[0])
	}
}

// many are n classes with nothing wrong.
func many(n int) []api.Class {
	var l []api.Class
	for i := range n {
		l = append(l, plain("n"+strconv.Itoa(i), "Object"))
	}
	return l
}

func TestTooManyClasses(t *testing.T) {
	for _, n := range []int{0, 1, 39, 40} {
		if names := treeOf(t, many(n)...).Names(); len(names) != 13+n {
			t.Errorf("%d classes make %d names", n, len(names))
		}
	}
	for _, n := range []int{41, 42, 53, 100} {
		checkNewFault(t, longError, many(n)...)
	}
	if _, e := kin.New(make([]api.Class, 1<<16)); e != longError {
		t.Errorf("65536 classes: %v", e)
	}
}

func TestNamesThatAreNone(t *testing.T) {
	for _, name := range []string{"", " ", "-", "a-", "a b", "a.b", "<init>", "a<", ">", "[I", "La;", "a;", "[", "é", "\xff", "\x00", "a\x00", strings.Repeat("n", 61), strings.Repeat("n", 1000)} {
		checkNewFault(t, nameError, plain(name, "Object"))
		checkNewFault(t, nameError, append(many(3), plain(name, "Object"))...)
	}
	for _, name := range []string{"a", "Z", "0", "_", "$", "/", "I", "J", "N", "V", "L", "a/b", "//", "object", "Objects", strings.Repeat("n", 60)} {
		tree := treeOf(t, plain(name, "Object"))
		if c, there := tree.Class(name); c.Name != name || !there {
			t.Errorf("%q isn't there", name)
		}
	}
}

func TestTwoOfOneName(t *testing.T) {
	checkNewFault(t, twiceError, plain("a", "Object"), plain("a", "Object"))
	checkNewFault(t, twiceError, plain("a", "Object"), plain("b", "a"), plain("a", "Throwable"))
	checkNewFault(t, twiceError, plain("a", "Object"), interfaceOf("a"))
	checkNewFault(t, twiceError, append(many(39), plain("n38", "Object"))...)
	for _, own := range kin.Own() {
		checkNewFault(t, twiceError, plain(own, "Object"))
		checkNewFault(t, twiceError, plain("a", "Object"), interfaceOf(own))
	}
	// Names are told apart by each byte.
	treeOf(t, plain("a", "Object"), plain("A", "Object"), plain("aa", "Object"), plain("a/", "Object"), plain("sys", "Object"), plain("OBJECT", "Object"))
}

func TestParents(t *testing.T) {
	for _, own := range kin.Own() {
		l := []api.Class{plain("a", own)}
		if own == "String" || own == "Sys" {
			checkNewFault(t, kinError, l...)
			checkNewFault(t, kinError, append(l, plain("b", "a"))...)
		} else if above := treeOf(t, l...).Above("a"); !slices.Contains(above, own) {
			t.Errorf("%s isn't above its own: %q", own, above)
		}
	}
	for _, super := range []string{"", "absent", "A", "La;", "LObject;", "[LObject;", "object", "Object ", "\xff", "i"} {
		checkNewFault(t, kinError, interfaceOf("i"), plain("b", super))
		checkNewFault(t, kinError, interfaceOf("i"), plain("b", super), plain("a", "b", "i"))
	}
	// An abstract one may be above.
	treeOf(t, plain("a", "b"), api.Class{Flags: abstractFlag, Name: "b", Super: "Object"})
}

// TestParentsOfInterfaces: Object alone.
func TestParentsOfInterfaces(t *testing.T) {
	for _, super := range append(kin.Own(), "a", "i", "j", "", "absent", "LObject;") {
		for _, flags := range []int{interfaceFlag, interfaceFlags} {
			l := []api.Class{plain("a", "Object"), interfaceOf("i"), {Flags: flags, Name: "j", Super: super}}
			if super == "Object" {
				treeOf(t, l...)
			} else {
				checkNewFault(t, kinError, l...)
			}
		}
	}
}

func TestInterfacesThatAreNone(t *testing.T) {
	for _, name := range append(kin.Own(), "", "absent", "I", "Li;", "[i", "i ", "a", "b", "abstract") {
		with := func(interfaces ...string) []api.Class {
			return []api.Class{plain("a", "Object"), {Flags: abstractFlag, Name: "abstract", Super: "Object"}, interfaceOf("i"), interfaceOf("j"), plain("b", "Object", interfaces...)}
		}
		checkNewFault(t, kinError, with(name)...)
		checkNewFault(t, kinError, with("i", "j", name)...)
		checkNewFault(t, kinError, with(name, "i", "j")...)
		// An interface may name interfaces alone, too.
		checkNewFault(t, kinError, interfaceOf("i"), interfaceOf("j", "i", name), plain("a", "Object", "i"))
	}
}

func TestInterfacesTwice(t *testing.T) {
	i, j := interfaceOf("i"), interfaceOf("j")
	for _, twice := range [][]string{{"i", "i"}, {"i", "j", "i"}, {"j", "i", "i"}, {"i", "i", "j", "j"}, slices.Repeat([]string{"i", "j"}, 5000)} {
		checkNewFault(t, kinError, i, j, plain("a", "Object", twice...))
		checkNewFault(t, kinError, i, j, interfaceOf("k", twice...))
	}
	// One that stands above already may be named.
	treeOf(t, i, interfaceOf("j", "i"), plain("a", "Object", "j", "i"), plain("b", "a", "i", "j"))
}

func TestCircles(t *testing.T) {
	// Of one class alone.
	checkNewFault(t, circleError, plain("a", "a"))
	checkNewFault(t, circleError, interfaceOf("i", "i"))
	checkNewFault(t, circleError, interfaceOf("j"), interfaceOf("i", "j", "i"))
	// By parents.
	checkNewFault(t, circleError, plain("a", "b"), plain("b", "a"))
	checkNewFault(t, circleError, plain("a", "b"), plain("b", "c"), plain("c", "a"))
	// By interfaces.
	checkNewFault(t, circleError, interfaceOf("i", "j"), interfaceOf("j", "i"))
	checkNewFault(t, circleError, interfaceOf("i", "j"), interfaceOf("j", "k"), interfaceOf("k", "l", "i"), interfaceOf("l"))
	// Of others, above and below who is in none.
	checkNewFault(t, circleError, plain("a", "a"), plain("b", "a"), plain("c", "Object"))
	checkNewFault(t, circleError, interfaceOf("i", "i"), plain("a", "Object", "i"))
	checkNewFault(t, circleError, interfaceOf("i", "j"), interfaceOf("j", "i"), plain("a", "Object"), plain("b", "a", "j"))
	checkNewFault(t, circleError, interfaceOf("i"), plain("a", "b", "i"), plain("b", "a", "i"))
	// By both.
	checkNewFault(t, circleError, plain("a", "b", "i"), plain("b", "a"), interfaceOf("i", "j"), interfaceOf("j", "i"))
	// An interface may not be a parent, nor a class an interface: before there can be such a circle, that is told.
	checkNewFault(t, kinError, plain("a", "i"), interfaceOf("i", "a"))
	checkNewFault(t, kinError, plain("a", "Object", "a"))
	checkNewFault(t, kinError, plain("a", "Object", "i"), interfaceOf("i", "a"))
	checkNewFault(t, kinError, api.Class{Flags: interfaceFlags, Name: "i", Super: "i"})
}

func TestLongestCircles(t *testing.T) {
	for _, n := range []int{2, 13, 39, 40} {
		line, web := many(n), many(n)
		for i := range n {
			line[i].Super = line[(i+1)%n].Name
			web[i].Flags, web[i].Ifaces = interfaceFlags, []string{web[(i+7)%n].Name}
		}
		for _, l := range [][]api.Class{line, web} {
			if _, e := kin.New(l); e != circleError {
				t.Errorf("a circle of %d: %v", n, e)
			}
			// One broken place makes it a line.
			if n%7 != 0 {
				l[n/2].Super, l[n/2].Ifaces = "Object", nil
				treeOf(t, l...)
			}
		}
	}
}

// TestNoCircles: ways that meet again above are none.
func TestNoCircles(t *testing.T) {
	treeOf(t, interfaceOf("i"), interfaceOf("j", "i"), interfaceOf("k", "i"), interfaceOf("l", "j", "k", "i"), plain("a", "Object", "l", "k"), plain("b", "a", "k", "i", "l"))
	// Each with all ahead of it: by as many ways as there are lists of them.
	var web []api.Class
	var names []string
	for i := range 40 {
		web = append(web, interfaceOf("n"+strconv.Itoa(i), names...))
		names = append(slices.Clone(names), "n"+strconv.Itoa(i))
	}
	if above := treeOf(t, web...).Above("n39"); len(above) != 41 {
		t.Errorf("%d stand above the last one", len(above))
	}
}

// TestFirstOfSeveralFaults has each choice of the five, wherever they stand.
func TestFirstOfSeveralFaults(t *testing.T) {
	faults := []struct {
		e api.Errno
		l []api.Class
	}{
		{longError, many(41)},
		{nameError, []api.Class{plain("-", "Object")}},
		{twiceError, []api.Class{plain("twice", "Object"), plain("twice", "Object")}},
		{kinError, []api.Class{plain("kin", "absent")}},
		{circleError, []api.Class{plain("circle", "circle")}},
	}
	for choice := 1; choice < 1<<len(faults); choice++ {
		var l []api.Class
		first := api.OK
		for i, fault := range faults {
			if choice>>i&1 == 0 {
				continue
			}
			l = append(l, fault.l...)
			if first == api.OK {
				first = fault.e
			}
		}
		checkNewFault(t, first, l...)
	}
	// Two faults of one class.
	checkNewFault(t, nameError, plain("", "absent"), plain("", "absent"))
	checkNewFault(t, twiceError, plain("Sys", "Sys"))
	checkNewFault(t, twiceError, plain("a", "absent"), plain("a", "a"))
	checkNewFault(t, kinError, plain("a", "a", "absent"))
	checkNewFault(t, kinError, interfaceOf("i", "i", "i"))
}
