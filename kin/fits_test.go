package kin_test

import (
	"strings"
	"testing"

	"reglet/api"
)

// wanted are, for each text, all texts of a list that it fits where they are wanted, but "" and itself.
var wanted = []struct{ typ, fits string }{
	{"", ""}, {"I", ""}, {"J", ""}, {"V", ""}, {"x", ""}, {"L", ""}, {"L;", ""},
	{"N", "[ [[ [N [I [[I [J [V L L; LObject; La; Lb; Lc; Li; Lk; LZ; Lz; [LObject; [La; [Lb; [Lc; [Li; [Lz; [[LObject; [[La; [[Lc; [[Li; [L [[L"},
	{"LObject;", ""}, {"Lz;", ""}, {"LZ;", "LObject;"},
	{"Li;", "LObject;"}, {"Lk;", "LObject;"},
	{"La;", "LObject; Li;"}, {"Lb;", "LObject; Li; La;"}, {"Lc;", "LObject; Li; La; Lb; Lk;"},
	{"[", "LObject;"}, {"[V", "LObject;"}, {"[N", "LObject;"}, {"[I", "LObject;"}, {"[J", "LObject;"}, {"[L", "LObject;"}, {"[LObject;", "LObject;"}, {"[Lz;", "LObject;"},
	{"[La;", "LObject; [LObject; [Li;"}, {"[Li;", "LObject; [LObject;"},
	{"[Lb;", "LObject; [LObject; [Li; [La;"}, {"[Lc;", "LObject; [LObject; [Li; [La; [Lb;"},
	{"[[", "LObject; [LObject;"}, {"[[I", "LObject; [LObject;"}, {"[[L", "LObject; [LObject;"}, {"[[LObject;", "LObject; [LObject;"},
	{"[[Li;", "LObject; [LObject; [[LObject;"}, {"[[La;", "LObject; [LObject; [[LObject; [[Li;"},
	{"[[Lc;", "LObject; [LObject; [[LObject; [[Li; [[La;"},
}

// TestFitsEachWhereEach asks at each of the texts where each of them is wanted.
func TestFitsEachWhereEach(t *testing.T) {
	tree := treeOf(t, family()...)
	for _, x := range wanted {
		fits := map[string]bool{"": true, x.typ: true}
		for _, want := range strings.Fields(x.fits) {
			fits[want] = true
		}
		for _, y := range wanted {
			delete(fits, y.typ)
			want := y.typ == "" || x.typ == y.typ || strings.Contains(" "+x.fits+" ", " "+y.typ+" ")
			if got := tree.Fits(x.typ, y.typ); got != want {
				t.Errorf("Fits(%q, %q) = %v", x.typ, y.typ, got)
			}
		}
		if len(fits) > 0 {
			t.Errorf("%q: %v isn't asked for", x.typ, fits)
		}
	}
}

// TestFitsOfOwnClasses: by hand, a few of those that programs ask for.
func TestFitsOfOwnClasses(t *testing.T) {
	tree := treeOf(t, family()...)
	for _, x := range []struct {
		typ, want string
		fits      bool
	}{
		{"Le;", "LThrowable;", true}, {"Le;", "LException;", true}, {"Le;", "LZeroFault;", true}, {"Le;", "LNullFault;", false}, {"LZeroFault;", "Le;", false},
		{"LMemoryFault;", "LThrowable;", true}, {"LMemoryFault;", "LException;", false}, {"LThrowable;", "LException;", false},
		{"[Le;", "[LThrowable;", true}, {"[LThrowable;", "[Le;", false}, {"[Le;", "LThrowable;", false}, {"Le;", "[LThrowable;", false},
		{"LString;", "LObject;", true}, {"LObject;", "LString;", false}, {"LString;", "LSys;", false}, {"[LString;", "LString;", false}, {"N", "LString;", true}, {"[I", "LString;", false},
		{"I", "J", false}, {"J", "I", false}, {"I", "I", true}, {"J", "J", true}, {"N", "I", false}, {"I", "N", false}, {"LObject;", "N", false}, {"N", "N", true}, {"N", "V", false}, {"N", "", true}, {"N", "x", false},
		{"", "I", false}, {"", "N", false}, {"", "LObject;", false}, {"", "[", false}, {"", "", true},
	} {
		if got := tree.Fits(x.typ, x.want); got != x.fits {
			t.Errorf("Fits(%q, %q) = %v", x.typ, x.want, got)
		}
	}
}

// TestFitsOfArraysOfAnyDepth: as deep as wanted the elements must fit; deeper, Object is wanted there; less deep they don't.
func TestFitsOfArraysOfAnyDepth(t *testing.T) {
	tree := treeOf(t, family()...)
	of := func(depth int, s string) string { return strings.Repeat("[", depth) + s }
	for typ := range 12 {
		for want := range 12 {
			for _, x := range []struct {
				got, want bool
			}{
				{tree.Fits(of(typ, "Lc;"), of(want, "Li;")), typ == want},
				{tree.Fits(of(typ, "Li;"), of(want, "Lc;")), false},
				{tree.Fits(of(typ, "Lc;"), of(want, "LObject;")), typ >= want},
				{tree.Fits(of(typ, "I"), of(want, "LObject;")), typ > want},
				{tree.Fits(of(typ, "N"), of(want, "LObject;")), typ > want || typ == 0},
				{tree.Fits(of(typ, "N"), of(want, "La;")), typ == 0},
				{tree.Fits(of(typ, "I"), of(want, "I")), typ == want},
				{tree.Fits(of(typ, "I"), of(want, "J")), false},
				{tree.Fits(of(typ, "Lz;"), of(want, "Lz;")), typ == want},
				{tree.Fits(of(typ, "Lz;"), of(want, "LObject;")), typ > want},
				{tree.Fits(of(typ, "Lc;"), of(want, "Lz;")), false},
				{tree.Fits(of(typ, ""), of(want, "")), typ == want || want == 0},
				{tree.Fits(of(typ, ""), of(want, "LObject;")), typ > want},
			} {
				if x.got != x.want {
					t.Errorf("%d [, where %d are wanted: %+v", typ, want, x)
				}
			}
		}
	}
}

// TestFitsOfLongTexts: there is no end of [ that a text may begin with.
func TestFitsOfLongTexts(t *testing.T) {
	tree := treeOf(t, family()...)
	deep := strings.Repeat("[", 1<<24)
	for _, x := range []struct {
		typ, want string
		fits      bool
	}{
		{deep, deep, true}, {deep + "La;", deep + "La;", true}, {deep + "La;", deep + "Li;", true}, {deep + "Li;", deep + "La;", false}, {deep + "I", deep + "LObject;", false},
		{deep + "[I", deep + "LObject;", true}, {deep, "LObject;", true}, {deep, "[[[LObject;", true}, {deep, "[La;", false}, {"N", deep, true}, {deep + "N", deep + "La;", false}, {deep, deep + "[", false},
		{"L" + deep + ";", "L" + deep + ";", true}, {"L" + deep + ";", "LObject;", false}, {"La;", "L" + deep + "a;", false},
	} {
		if got := tree.Fits(x.typ, x.want); got != x.fits {
			t.Errorf("texts of %d and %d bytes: %v", len(x.typ), len(x.want), got)
		}
	}
	if tree.Known(deep+"I") || tree.Known("L"+deep+";") {
		t.Error("a text is known that is no type")
	}
}

// TestNamesAsOtherTypes: a class may be named as a type or as the beginning of one.
func TestNamesAsOtherTypes(t *testing.T) {
	tree := treeOf(t, plain("I", "Object"), plain("L", "I"), interfaceOf("N"), plain("V", "L", "N"))
	for _, x := range []struct {
		typ, want string
		fits      bool
	}{
		{"LI;", "LObject;", true}, {"LI;", "I", false}, {"I", "LI;", false}, {"LL;", "LI;", true}, {"LV;", "LN;", true}, {"LV;", "N", false}, {"N", "LN;", true}, {"V", "LN;", false}, {"LN;", "LI;", false}, {"[LV;", "[LN;", true}, {"L", "LI;", false}, {"LL", "LI;", false},
	} {
		if got := tree.Fits(x.typ, x.want); got != x.fits {
			t.Errorf("Fits(%q, %q) = %v", x.typ, x.want, got)
		}
	}
}

// TestFitsByWayOfAnother: what fits where a second one is wanted, and that where a third one is, fits there by itself.
func TestFitsByWayOfAnother(t *testing.T) {
	tree := treeOf(t, family()...)
	texts := textsOf(tree.Names())
	fits := make([][]bool, len(texts))
	for i, typ := range texts {
		if !tree.Fits(typ, typ) {
			t.Errorf("%q doesn't fit where itself is wanted", typ)
		}
		for _, want := range texts {
			fits[i] = append(fits[i], tree.Fits(typ, want))
		}
	}
	steps := 0
	for a := range texts {
		for b := range texts {
			for c := range texts {
				if a == b || b == c || !fits[a][b] || !fits[b][c] {
					continue
				}
				steps++
				if !fits[a][c] {
					t.Errorf("%q fits %q, that fits %q, but the first doesn't fit the last", texts[a], texts[b], texts[c])
				}
			}
		}
	}
	if steps < 800 {
		t.Errorf("only %d fit by way of another", steps)
	}
}

// TestFitsAsAboveSays: of classes just those fit that Above names.
func TestFitsAsAboveSays(t *testing.T) {
	tree := treeOf(t, family()...)
	for _, name := range tree.Names() {
		above := map[string]bool{}
		for _, s := range tree.Above(name) {
			above[s] = true
		}
		for _, other := range tree.Names() {
			for _, arrays := range []string{"", "[", "[[[[[[[[", "[[[[[[[[["} {
				if got := tree.Fits(arrays+"L"+name+";", arrays+"L"+other+";"); got != above[other] {
					t.Errorf("%s of %s where %s is wanted: %v", arrays, name, other, got)
				}
			}
		}
	}
}

// TestFitsInTreesOfTheirOwn: what is in one tree isn't in another one.
func TestFitsInTreesOfTheirOwn(t *testing.T) {
	one, other := treeOf(t, plain("a", "Throwable"), plain("b", "a")), treeOf(t, plain("b", "Object"), plain("a", "b"))
	for range 2 {
		if !one.Fits("Lb;", "La;") || one.Fits("La;", "Lb;") || !other.Fits("La;", "Lb;") || other.Fits("Lb;", "La;") || !one.Fits("Lb;", "LThrowable;") || other.Fits("La;", "LThrowable;") {
			t.Error("two trees answer alike")
		}
	}
	if _, there := treeOf(t, []api.Class{}...).Class("a"); there {
		t.Error("a is in a tree of none")
	}
}
