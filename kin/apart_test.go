package kin_test

import (
	"reflect"
	"slices"
	"sync"
	"testing"

	"reglet/api"
	"reglet/kin"
)

// spoil writes over all that a value leads to, the room behind its lists too.
func spoil(v reflect.Value) {
	switch v.Kind() {
	case reflect.Slice:
		v = v.Slice(0, v.Cap())
		for i := range v.Len() {
			spoil(v.Index(i))
		}
	case reflect.Struct:
		for i := range v.NumField() {
			spoil(v.Field(i))
		}
	case reflect.String:
		v.SetString("spoilt")
	case reflect.Uint8:
		v.SetUint(99)
	default:
		v.SetInt(99)
	}
}

// roomy is a copy of a list with two things more in the room behind it.
func roomy(v reflect.Value) reflect.Value {
	list := reflect.MakeSlice(v.Type(), 0, v.Len()+2)
	list = reflect.AppendSlice(list, v)
	for i := range list.Len() {
		widen(list.Index(i))
	}
	return list
}

// widen gives all lists that a value leads to some room behind.
func widen(v reflect.Value) {
	switch v.Kind() {
	case reflect.Slice:
		v.Set(roomy(v))
	case reflect.Struct:
		for i := range v.NumField() {
			widen(v.Field(i))
		}
	}
}

// wide are the family's classes, each list with room behind it.
func wide() []api.Class {
	l := family()
	widen(reflect.ValueOf(&l).Elem())
	return l
}

// whole is all that a list leads to, with the room behind it.
func whole(l []api.Class) []api.Class { return l[:cap(l)] }

// alike: are they the same? (An empty list may be nil or not.)
func alike[T any](a, b T) bool { return alikeValues(reflect.ValueOf(a), reflect.ValueOf(b)) }

func alikeValues(a, b reflect.Value) bool {
	switch a.Kind() {
	case reflect.Slice:
		if a.Len() != b.Len() {
			return false
		}
		for i := range a.Len() {
			if !alikeValues(a.Index(i), b.Index(i)) {
				return false
			}
		}
		return true
	case reflect.Struct:
		for i := range a.NumField() {
			if !alikeValues(a.Field(i), b.Field(i)) {
				return false
			}
		}
		return true
	}
	return a.Equal(b)
}

func checkFamily(t *testing.T, tree *kin.Tree, what string) {
	t.Helper()
	want, _ := wantNew(family())
	t.Run(what, func(t *testing.T) { checkTree(t, tree, want) })
	for _, c := range family() {
		for _, m := range c.Methods {
			if owner, got, _ := tree.Method(c.Name, m.Name, m.Desc); owner != c.Name || !alike(got, m) {
				t.Errorf("%s: %s of %s is %+v", what, m.Name, c.Name, got)
			}
		}
	}
}

// TestNothingHandedInIsChanged, neither by New nor by what is asked behind it, nor by a New that fails.
func TestNothingHandedInIsChanged(t *testing.T) {
	l, kept := wide(), wide()
	tree := treeOf(t, l...)
	checkFamily(t, tree, "first")
	if !reflect.DeepEqual(whole(l), whole(kept)) {
		t.Errorf("%+v", l)
	}
	for _, other := range []api.Class{plain("", "Object"), plain("a", "Object"), plain("y", "absent"), plain("y", "y")} {
		l, kept := append(wide(), other), append(wide(), other)
		if _, e := kin.New(l); e == api.OK || !reflect.DeepEqual(whole(l), whole(kept)) {
			t.Errorf("%v: %+v", e, l)
		}
	}
}

// TestNothingHandedInIsKept: the tree stays as it is, whatever becomes of the classes.
func TestNothingHandedInIsKept(t *testing.T) {
	l := wide()
	tree := treeOf(t, l...)
	spoil(reflect.ValueOf(&l).Elem())
	checkFamily(t, tree, "spoilt")
}

// TestAnswersAreApart: what becomes of an answer touches neither the tree nor another answer.
func TestAnswersAreApart(t *testing.T) {
	tree := treeOf(t, wide()...)
	// Twice each: the second one is spoilt when the first one is answered.
	own, ownToo := kin.Own(), kin.Own()
	names, namesToo := tree.Names(), tree.Names()
	spoil(reflect.ValueOf(&ownToo).Elem())
	spoil(reflect.ValueOf(&namesToo).Elem())
	if slices.Contains(own, "spoilt") || slices.Contains(names, "spoilt") {
		t.Errorf("%q, %q", own, names)
	}
	for _, name := range names {
		c, _ := tree.Class(name)
		other, _ := tree.Class(name)
		third, _ := tree.Class(name)
		spoil(reflect.ValueOf(&other).Elem())
		if !alike(c, third) {
			t.Errorf("Class(%q) = %+v, and then %+v", name, third, c)
		}
		above, aboveToo := tree.Above(name), tree.Above(name)
		spoil(reflect.ValueOf(&aboveToo).Elem())
		if slices.Contains(above, "spoilt") {
			t.Errorf("Above(%q) = %q", name, above)
		}
		for _, m := range third.Methods {
			_, got, _ := tree.Method(name, m.Name, m.Desc)
			_, other, _ := tree.Method(name, m.Name, m.Desc)
			spoil(reflect.ValueOf(&other).Elem())
			if !alike(got, m) {
				t.Errorf("Method(%q, %q) = %+v", name, m.Name, got)
			}
		}
	}
	checkFamily(t, tree, "behind")
}

// TestAnswersHangOnNothingElse: asked again and again, and by several at once, a tree answers the same.
func TestAnswersHangOnNothingElse(t *testing.T) {
	tree := treeOf(t, family()...)
	ask := func() []any {
		var answers []any
		for _, name := range tree.Names() {
			c, there := tree.Class(name)
			owner, f, found := tree.Method(name, "h", "()V")
			answers = append(answers, c, there, tree.Above(name), owner, f, found, tree.Fits("L"+name+";", "Li;"), tree.Known("L"+name+";"))
		}
		return answers
	}
	first := ask()
	var all sync.WaitGroup
	for range 8 {
		all.Go(func() {
			for range 50 {
				if !reflect.DeepEqual(ask(), first) {
					t.Error("a tree answers otherwise than before")
				}
			}
		})
	}
	all.Wait()
}
